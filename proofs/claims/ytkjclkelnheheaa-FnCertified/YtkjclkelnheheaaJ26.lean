/-
 SvG2, SvG3, SvG4, SvL5.
-/
import Derived.Test.YtkjclkelnheheaaJ23
import Derived.BigQuiet
import Derived.Deep.LoopGhost
namespace Go.Proofs.Ytkjclkelnheheaa
namespace Sv
open Go.RowKit Gr
def findR (n : Nat) : Go.Code → Option Go.Code
  | .region id ops d => if id = n then some (.region id ops d) else none
  | .seq a b => match findR n a with
    | some c => some c
    | none => findR n b
  | .cond _ a b => match findR n a with
    | some c => some c
    | none => findR n b
  | .block _ c => findR n c
  | .loop c => findR n c
  | .scope c => findR n c
  | _ => none
def rgn (F : Func) (n : Nat) : Go.Code := (F.body.bind fun c => findR n c).getD .skip
set_option maxRecDepth 100000 in
set_option maxHeartbeats 1000000 in
theorem r29_any {K : Act → World → Prop} {Q' : Exit → Act → World → Prop} {w X : World} {bt gl ga gr n : Nat} {t : Tp} {gk gm : Nat} {link mate : Lk} {b : Nat} (G : Hid (GS w X bt gl ga gr n t gk gm link mate)) (hb : b < n) {s0 s1 s2 s3 s4 s6 s7 s8 s9 s10 s11 s12 s15 s16 s17 s18 s19 s20 s21 s22 s23 s24 s25 s26 s27 s28 s29 s30 s31 s32 s33 s34 s35 s36 s37 s38 s39 s40 s41 s42 s43 s44 s45 s46 s47 s48 s49 s50 s51 s52 s53 s54 s55 s56 s57 s58 s59 s60 s61 s62 s63 s64 s65 s66 s67 s68 s69 s70 s71 s72 s73 s74 s75 s76 s77 s78 s79 s80 s81 s82 s83 s84 s85 s86 s87 s88 s89 s90 s91 s92 s93 s94 s95 s96 s97 s98 s99 s100 s101 s102 s103 s104 s105 s106 s107 s108 s109 s110 s111 s112 s113 s114 s115 s116 s117 s118 s119 s120 s121 s122 s123 s124 s125 s126 s127 s128 s129 s130 s131 s132 s133 s134 s135 s136 s137 s138 s139 s140 s141 s142 s143 s144 s145 s146 s147 s148 s149 s150 s151 s152 s153 s154 s155 s156 s157 s158 s159 s160 s161 s162 s163 s164 s165 s166 s167 s168 s169 s170 s171 s172 s173 s174 s175 s176 s177 s178 s179 s180 s181 s182 s183 s184 s185 s186 s187 s188 s189 s190 s191 s192 s193 s194 s195 s196 s197 s198 s199 s200 s201 s202 s203 s204 s205 s206 s207 s208 s209 s210 s211 s212 s213 s214 s215 s216 s217 s218 s219 s220 s221 s222 s223 s224 s225 s226 s227 s228 s229 s230 s231 s232 s233 s234 s235 s236 s237 s238 s239 s240 s241 s242 s243 s244 : Value}
    (rest : Hid (∀ (v198 v199 v200 v201 v202 v203 v204 : Value) (W : World), GS w W bt gl ga gr n ⟨t.label, t.ahead.set b link, t.root⟩ gk gm link mate → K ⟨List.toArray (s0 :: s1 :: s2 :: s3 :: s4 :: .pointer (some ⟨bt, 0, none⟩) :: s6 :: s7 :: s8 :: s9 :: s10 :: s11 :: s12 :: .int .i64 (b : Int) :: .pointer (some ⟨gk, 0, none⟩) :: s15 :: s16 :: s17 :: s18 :: s19 :: s20 :: s21 :: s22 :: s23 :: s24 :: s25 :: s26 :: s27 :: s28 :: s29 :: s30 :: s31 :: s32 :: s33 :: s34 :: s35 :: s36 :: s37 :: s38 :: s39 :: s40 :: s41 :: s42 :: s43 :: s44 :: s45 :: s46 :: s47 :: s48 :: s49 :: s50 :: s51 :: s52 :: s53 :: s54 :: s55 :: s56 :: s57 :: s58 :: s59 :: s60 :: s61 :: s62 :: s63 :: s64 :: s65 :: s66 :: s67 :: s68 :: s69 :: s70 :: s71 :: s72 :: s73 :: s74 :: s75 :: s76 :: s77 :: s78 :: s79 :: s80 :: s81 :: s82 :: s83 :: s84 :: s85 :: s86 :: s87 :: s88 :: s89 :: s90 :: s91 :: s92 :: s93 :: s94 :: s95 :: s96 :: s97 :: s98 :: s99 :: s100 :: s101 :: s102 :: s103 :: s104 :: s105 :: s106 :: s107 :: s108 :: s109 :: s110 :: s111 :: s112 :: s113 :: s114 :: s115 :: s116 :: s117 :: s118 :: s119 :: s120 :: s121 :: s122 :: s123 :: s124 :: s125 :: s126 :: s127 :: s128 :: s129 :: s130 :: s131 :: s132 :: s133 :: s134 :: s135 :: s136 :: s137 :: s138 :: s139 :: s140 :: s141 :: s142 :: s143 :: s144 :: s145 :: s146 :: s147 :: s148 :: s149 :: s150 :: s151 :: s152 :: s153 :: s154 :: s155 :: s156 :: s157 :: s158 :: s159 :: s160 :: s161 :: s162 :: s163 :: s164 :: s165 :: s166 :: s167 :: s168 :: s169 :: s170 :: s171 :: s172 :: s173 :: s174 :: s175 :: s176 :: s177 :: s178 :: s179 :: s180 :: s181 :: s182 :: s183 :: s184 :: s185 :: s186 :: s187 :: s188 :: s189 :: s190 :: s191 :: s192 :: s193 :: s194 :: s195 :: s196 :: s197 :: v198 :: v199 :: v200 :: v201 :: v202 :: v203 :: v204 :: s205 :: s206 :: s207 :: s208 :: s209 :: s210 :: s211 :: s212 :: s213 :: s214 :: s215 :: s216 :: s217 :: s218 :: s219 :: s220 :: s221 :: s222 :: s223 :: s224 :: s225 :: s226 :: s227 :: s228 :: s229 :: s230 :: s231 :: s232 :: s233 :: s234 :: s235 :: s236 :: s237 :: s238 :: s239 :: s240 :: s241 :: s242 :: s243 :: s244 :: []), []⟩ W)) : (rgn Try.f71 29).wp Try.prog (Exit.then K Q') ⟨List.toArray (s0 :: s1 :: s2 :: s3 :: s4 :: .pointer (some ⟨bt, 0, none⟩) :: s6 :: s7 :: s8 :: s9 :: s10 :: s11 :: s12 :: .int .i64 (b : Int) :: .pointer (some ⟨gk, 0, none⟩) :: s15 :: s16 :: s17 :: s18 :: s19 :: s20 :: s21 :: s22 :: s23 :: s24 :: s25 :: s26 :: s27 :: s28 :: s29 :: s30 :: s31 :: s32 :: s33 :: s34 :: s35 :: s36 :: s37 :: s38 :: s39 :: s40 :: s41 :: s42 :: s43 :: s44 :: s45 :: s46 :: s47 :: s48 :: s49 :: s50 :: s51 :: s52 :: s53 :: s54 :: s55 :: s56 :: s57 :: s58 :: s59 :: s60 :: s61 :: s62 :: s63 :: s64 :: s65 :: s66 :: s67 :: s68 :: s69 :: s70 :: s71 :: s72 :: s73 :: s74 :: s75 :: s76 :: s77 :: s78 :: s79 :: s80 :: s81 :: s82 :: s83 :: s84 :: s85 :: s86 :: s87 :: s88 :: s89 :: s90 :: s91 :: s92 :: s93 :: s94 :: s95 :: s96 :: s97 :: s98 :: s99 :: s100 :: s101 :: s102 :: s103 :: s104 :: s105 :: s106 :: s107 :: s108 :: s109 :: s110 :: s111 :: s112 :: s113 :: s114 :: s115 :: s116 :: s117 :: s118 :: s119 :: s120 :: s121 :: s122 :: s123 :: s124 :: s125 :: s126 :: s127 :: s128 :: s129 :: s130 :: s131 :: s132 :: s133 :: s134 :: s135 :: s136 :: s137 :: s138 :: s139 :: s140 :: s141 :: s142 :: s143 :: s144 :: s145 :: s146 :: s147 :: s148 :: s149 :: s150 :: s151 :: s152 :: s153 :: s154 :: s155 :: s156 :: s157 :: s158 :: s159 :: s160 :: s161 :: s162 :: s163 :: s164 :: s165 :: s166 :: s167 :: s168 :: s169 :: s170 :: s171 :: s172 :: s173 :: s174 :: s175 :: s176 :: s177 :: s178 :: s179 :: s180 :: s181 :: s182 :: s183 :: s184 :: s185 :: s186 :: s187 :: s188 :: s189 :: s190 :: s191 :: s192 :: s193 :: s194 :: s195 :: s196 :: s197 :: s198 :: s199 :: s200 :: s201 :: s202 :: s203 :: s204 :: s205 :: s206 :: s207 :: s208 :: s209 :: s210 :: s211 :: s212 :: s213 :: s214 :: s215 :: s216 :: s217 :: s218 :: s219 :: s220 :: s221 :: s222 :: s223 :: s224 :: s225 :: s226 :: s227 :: s228 :: s229 :: s230 :: s231 :: s232 :: s233 :: s234 :: s235 :: s236 :: s237 :: s238 :: s239 :: s240 :: s241 :: s242 :: s243 :: s244 :: []), []⟩ X := by
  obtain ⟨f0, ⟨f1, f2⟩, f3, f4⟩ := (unhide G).ac (j := b) hb
  have k0 : X.cell? ⟨gk, 0, none⟩ = some (.int .i64 (link.f : Int)) := (unhide G).lk.cell 0 _ rfl
  have k1 : X.cell? ⟨gk, 1, none⟩ = some (.int .i64 (link.t : Int)) := (unhide G).lk.cell 1 _ rfl
  have b0 : (0 : Int) ≤ (b : Int) := by omega
  have b1 : (b : Int) < (n : Int) := by omega
  show Code.wp _ (Code.region 29 _ _) _ _ _
  go_big_region
  all_goals
    go_wp2_with fail
  all_goals
    first
      | exact unhide rest _ _ _ _ _ _ _ _ ((unhide G).ahd b link).drew
      | exact unhide rest _ _ _ _ _ _ _ _ ((unhide G).ahd b link)
set_option maxRecDepth 100000 in
set_option maxHeartbeats 1000000 in
theorem r30_any {K : Act → World → Prop} {Q' : Exit → Act → World → Prop} {w X : World} {bt gl ga gr n : Nat} {t : Tp} {gk gm : Nat} {link mate : Lk} {a b r : Nat} (G : Hid (GS w X bt gl ga gr n t gk gm link mate)) (ha : a < n) (hb : b < n) (hr : Hid (rt t a = r)) {s0 s1 s2 s3 s4 s6 s7 s8 s9 s10 s11 s14 s15 s16 s17 s18 s19 s20 s21 s22 s23 s24 s25 s26 s27 s28 s29 s30 s31 s32 s33 s34 s35 s36 s37 s38 s39 s40 s41 s42 s43 s44 s45 s46 s47 s48 s49 s50 s51 s52 s53 s54 s55 s56 s57 s58 s59 s60 s61 s62 s63 s64 s65 s66 s67 s68 s69 s70 s71 s72 s73 s74 s75 s76 s77 s78 s79 s80 s81 s82 s83 s84 s85 s86 s87 s88 s89 s90 s91 s92 s93 s94 s95 s96 s97 s98 s99 s100 s101 s102 s103 s104 s105 s106 s107 s108 s109 s110 s111 s112 s113 s114 s115 s116 s117 s118 s119 s120 s121 s122 s123 s124 s125 s126 s127 s128 s129 s130 s131 s132 s133 s134 s135 s136 s137 s138 s139 s140 s141 s142 s143 s144 s145 s146 s147 s148 s149 s150 s151 s152 s153 s154 s155 s156 s157 s158 s159 s160 s161 s162 s163 s164 s165 s166 s167 s168 s169 s170 s171 s172 s173 s174 s175 s176 s177 s178 s179 s180 s181 s182 s183 s184 s185 s186 s187 s188 s189 s190 s191 s192 s193 s194 s195 s196 s197 s198 s199 s200 s201 s202 s203 s204 s205 s206 s207 s208 s209 s210 s211 s212 s213 s214 s215 s216 s217 s218 s219 s220 s221 s222 s223 s224 s225 s226 s227 s228 s229 s230 s231 s232 s233 s234 s235 s236 s237 s238 s239 s240 s241 s242 s243 s244 : Value}
    (rest : Hid (∀ (v205 v206 v207 v208 v209 v210 v211 v212 v213 v214 v215 v216 v217 : Value) (W : World), GS w W bt gl ga gr n ⟨t.label, t.ahead, t.root.set b r⟩ gk gm link mate → K ⟨List.toArray (s0 :: s1 :: s2 :: s3 :: s4 :: .pointer (some ⟨bt, 0, none⟩) :: s6 :: s7 :: s8 :: s9 :: s10 :: s11 :: .int .i64 (a : Int) :: .int .i64 (b : Int) :: s14 :: s15 :: s16 :: s17 :: s18 :: s19 :: s20 :: s21 :: s22 :: s23 :: s24 :: s25 :: s26 :: s27 :: s28 :: s29 :: s30 :: s31 :: s32 :: s33 :: s34 :: s35 :: s36 :: s37 :: s38 :: s39 :: s40 :: s41 :: s42 :: s43 :: s44 :: s45 :: s46 :: s47 :: s48 :: s49 :: s50 :: s51 :: s52 :: s53 :: s54 :: s55 :: s56 :: s57 :: s58 :: s59 :: s60 :: s61 :: s62 :: s63 :: s64 :: s65 :: s66 :: s67 :: s68 :: s69 :: s70 :: s71 :: s72 :: s73 :: s74 :: s75 :: s76 :: s77 :: s78 :: s79 :: s80 :: s81 :: s82 :: s83 :: s84 :: s85 :: s86 :: s87 :: s88 :: s89 :: s90 :: s91 :: s92 :: s93 :: s94 :: s95 :: s96 :: s97 :: s98 :: s99 :: s100 :: s101 :: s102 :: s103 :: s104 :: s105 :: s106 :: s107 :: s108 :: s109 :: s110 :: s111 :: s112 :: s113 :: s114 :: s115 :: s116 :: s117 :: s118 :: s119 :: s120 :: s121 :: s122 :: s123 :: s124 :: s125 :: s126 :: s127 :: s128 :: s129 :: s130 :: s131 :: s132 :: s133 :: s134 :: s135 :: s136 :: s137 :: s138 :: s139 :: s140 :: s141 :: s142 :: s143 :: s144 :: s145 :: s146 :: s147 :: s148 :: s149 :: s150 :: s151 :: s152 :: s153 :: s154 :: s155 :: s156 :: s157 :: s158 :: s159 :: s160 :: s161 :: s162 :: s163 :: s164 :: s165 :: s166 :: s167 :: s168 :: s169 :: s170 :: s171 :: s172 :: s173 :: s174 :: s175 :: s176 :: s177 :: s178 :: s179 :: s180 :: s181 :: s182 :: s183 :: s184 :: s185 :: s186 :: s187 :: s188 :: s189 :: s190 :: s191 :: s192 :: s193 :: s194 :: s195 :: s196 :: s197 :: s198 :: s199 :: s200 :: s201 :: s202 :: s203 :: s204 :: v205 :: v206 :: v207 :: v208 :: v209 :: v210 :: v211 :: v212 :: v213 :: v214 :: v215 :: v216 :: v217 :: s218 :: s219 :: s220 :: s221 :: s222 :: s223 :: s224 :: s225 :: s226 :: s227 :: s228 :: s229 :: s230 :: s231 :: s232 :: s233 :: s234 :: s235 :: s236 :: s237 :: s238 :: s239 :: s240 :: s241 :: s242 :: s243 :: s244 :: []), []⟩ W)) : (rgn Try.f71 30).wp Try.prog (Exit.then K Q') ⟨List.toArray (s0 :: s1 :: s2 :: s3 :: s4 :: .pointer (some ⟨bt, 0, none⟩) :: s6 :: s7 :: s8 :: s9 :: s10 :: s11 :: .int .i64 (a : Int) :: .int .i64 (b : Int) :: s14 :: s15 :: s16 :: s17 :: s18 :: s19 :: s20 :: s21 :: s22 :: s23 :: s24 :: s25 :: s26 :: s27 :: s28 :: s29 :: s30 :: s31 :: s32 :: s33 :: s34 :: s35 :: s36 :: s37 :: s38 :: s39 :: s40 :: s41 :: s42 :: s43 :: s44 :: s45 :: s46 :: s47 :: s48 :: s49 :: s50 :: s51 :: s52 :: s53 :: s54 :: s55 :: s56 :: s57 :: s58 :: s59 :: s60 :: s61 :: s62 :: s63 :: s64 :: s65 :: s66 :: s67 :: s68 :: s69 :: s70 :: s71 :: s72 :: s73 :: s74 :: s75 :: s76 :: s77 :: s78 :: s79 :: s80 :: s81 :: s82 :: s83 :: s84 :: s85 :: s86 :: s87 :: s88 :: s89 :: s90 :: s91 :: s92 :: s93 :: s94 :: s95 :: s96 :: s97 :: s98 :: s99 :: s100 :: s101 :: s102 :: s103 :: s104 :: s105 :: s106 :: s107 :: s108 :: s109 :: s110 :: s111 :: s112 :: s113 :: s114 :: s115 :: s116 :: s117 :: s118 :: s119 :: s120 :: s121 :: s122 :: s123 :: s124 :: s125 :: s126 :: s127 :: s128 :: s129 :: s130 :: s131 :: s132 :: s133 :: s134 :: s135 :: s136 :: s137 :: s138 :: s139 :: s140 :: s141 :: s142 :: s143 :: s144 :: s145 :: s146 :: s147 :: s148 :: s149 :: s150 :: s151 :: s152 :: s153 :: s154 :: s155 :: s156 :: s157 :: s158 :: s159 :: s160 :: s161 :: s162 :: s163 :: s164 :: s165 :: s166 :: s167 :: s168 :: s169 :: s170 :: s171 :: s172 :: s173 :: s174 :: s175 :: s176 :: s177 :: s178 :: s179 :: s180 :: s181 :: s182 :: s183 :: s184 :: s185 :: s186 :: s187 :: s188 :: s189 :: s190 :: s191 :: s192 :: s193 :: s194 :: s195 :: s196 :: s197 :: s198 :: s199 :: s200 :: s201 :: s202 :: s203 :: s204 :: s205 :: s206 :: s207 :: s208 :: s209 :: s210 :: s211 :: s212 :: s213 :: s214 :: s215 :: s216 :: s217 :: s218 :: s219 :: s220 :: s221 :: s222 :: s223 :: s224 :: s225 :: s226 :: s227 :: s228 :: s229 :: s230 :: s231 :: s232 :: s233 :: s234 :: s235 :: s236 :: s237 :: s238 :: s239 :: s240 :: s241 :: s242 :: s243 :: s244 :: []), []⟩ X := by
  obtain ⟨f0, f1, f2⟩ := (unhide G).rc (j := b) hb
  have g1 : X.cell? ⟨gr, a, none⟩ = some (.int .i64 (r : Int)) := by rw [((unhide G).rc (j := a) ha).2.1, unhide hr]
  have a0 : (0 : Int) ≤ (a : Int) := by omega
  have a1 : (a : Int) < (n : Int) := by omega
  have b0 : (0 : Int) ≤ (b : Int) := by omega
  have b1 : (b : Int) < (n : Int) := by omega
  show Code.wp _ (Code.region 30 _ _) _ _ _
  go_big_region
  all_goals
    go_wp2_with fail
  all_goals
    first
      | exact unhide rest _ _ _ _ _ _ _ _ _ _ _ _ _ _ ((unhide G).rot b r).drew
      | exact unhide rest _ _ _ _ _ _ _ _ _ _ _ _ _ _ ((unhide G).rot b r)
set_option maxRecDepth 100000 in
set_option maxHeartbeats 1000000 in
theorem r32_any {K : Act → World → Prop} {Q' : Exit → Act → World → Prop} {w X : World} {bt gl ga gr n : Nat} {t : Tp} {gk gm : Nat} {link mate : Lk} {b : Nat} (G : Hid (GS w X bt gl ga gr n t gk gm link mate)) (hb : b < n) {s0 s1 s2 s3 s4 s6 s7 s8 s9 s10 s11 s12 s13 s14 s16 s18 s19 s20 s21 s22 s23 s24 s25 s26 s27 s28 s29 s30 s31 s32 s33 s34 s35 s36 s37 s38 s39 s40 s41 s42 s43 s44 s45 s46 s47 s48 s49 s50 s51 s52 s53 s54 s55 s56 s57 s58 s59 s60 s61 s62 s63 s64 s65 s66 s67 s68 s69 s70 s71 s72 s73 s74 s75 s76 s77 s78 s79 s80 s81 s82 s83 s84 s85 s86 s87 s88 s89 s90 s91 s92 s93 s94 s95 s96 s97 s98 s99 s100 s101 s102 s103 s104 s105 s106 s107 s108 s109 s110 s111 s112 s113 s114 s115 s116 s117 s118 s119 s120 s121 s122 s123 s124 s125 s126 s127 s128 s129 s130 s131 s132 s133 s134 s135 s136 s137 s138 s139 s140 s141 s142 s143 s144 s145 s146 s147 s148 s149 s150 s151 s152 s153 s154 s155 s156 s157 s158 s159 s160 s161 s162 s163 s164 s165 s166 s167 s168 s169 s170 s171 s172 s173 s174 s175 s176 s177 s178 s179 s180 s181 s182 s183 s184 s185 s186 s187 s188 s189 s190 s191 s192 s193 s194 s195 s196 s197 s198 s199 s200 s201 s202 s203 s204 s205 s206 s207 s208 s209 s210 s211 s212 s213 s214 s215 s216 s217 s218 s219 s220 s221 s222 s223 s224 s225 s226 s227 s228 s229 s230 s231 s232 s233 s234 s235 s236 s237 s238 s239 s240 s241 s242 s243 s244 : Value}
    (rest : Hid (∀ (v224 v225 v226 v227 v228 v229 v230 : Value) (W : World), GS w W bt gl ga gr n ⟨t.label, t.ahead.set b mate, t.root⟩ gk gm link mate → K ⟨List.toArray (s0 :: s1 :: s2 :: s3 :: s4 :: .pointer (some ⟨bt, 0, none⟩) :: s6 :: s7 :: s8 :: s9 :: s10 :: s11 :: s12 :: s13 :: s14 :: .pointer (some ⟨gm, 0, none⟩) :: s16 :: .int .i64 (b : Int) :: s18 :: s19 :: s20 :: s21 :: s22 :: s23 :: s24 :: s25 :: s26 :: s27 :: s28 :: s29 :: s30 :: s31 :: s32 :: s33 :: s34 :: s35 :: s36 :: s37 :: s38 :: s39 :: s40 :: s41 :: s42 :: s43 :: s44 :: s45 :: s46 :: s47 :: s48 :: s49 :: s50 :: s51 :: s52 :: s53 :: s54 :: s55 :: s56 :: s57 :: s58 :: s59 :: s60 :: s61 :: s62 :: s63 :: s64 :: s65 :: s66 :: s67 :: s68 :: s69 :: s70 :: s71 :: s72 :: s73 :: s74 :: s75 :: s76 :: s77 :: s78 :: s79 :: s80 :: s81 :: s82 :: s83 :: s84 :: s85 :: s86 :: s87 :: s88 :: s89 :: s90 :: s91 :: s92 :: s93 :: s94 :: s95 :: s96 :: s97 :: s98 :: s99 :: s100 :: s101 :: s102 :: s103 :: s104 :: s105 :: s106 :: s107 :: s108 :: s109 :: s110 :: s111 :: s112 :: s113 :: s114 :: s115 :: s116 :: s117 :: s118 :: s119 :: s120 :: s121 :: s122 :: s123 :: s124 :: s125 :: s126 :: s127 :: s128 :: s129 :: s130 :: s131 :: s132 :: s133 :: s134 :: s135 :: s136 :: s137 :: s138 :: s139 :: s140 :: s141 :: s142 :: s143 :: s144 :: s145 :: s146 :: s147 :: s148 :: s149 :: s150 :: s151 :: s152 :: s153 :: s154 :: s155 :: s156 :: s157 :: s158 :: s159 :: s160 :: s161 :: s162 :: s163 :: s164 :: s165 :: s166 :: s167 :: s168 :: s169 :: s170 :: s171 :: s172 :: s173 :: s174 :: s175 :: s176 :: s177 :: s178 :: s179 :: s180 :: s181 :: s182 :: s183 :: s184 :: s185 :: s186 :: s187 :: s188 :: s189 :: s190 :: s191 :: s192 :: s193 :: s194 :: s195 :: s196 :: s197 :: s198 :: s199 :: s200 :: s201 :: s202 :: s203 :: s204 :: s205 :: s206 :: s207 :: s208 :: s209 :: s210 :: s211 :: s212 :: s213 :: s214 :: s215 :: s216 :: s217 :: s218 :: s219 :: s220 :: s221 :: s222 :: s223 :: v224 :: v225 :: v226 :: v227 :: v228 :: v229 :: v230 :: s231 :: s232 :: s233 :: s234 :: s235 :: s236 :: s237 :: s238 :: s239 :: s240 :: s241 :: s242 :: s243 :: s244 :: []), []⟩ W)) : (rgn Try.f71 32).wp Try.prog (Exit.then K Q') ⟨List.toArray (s0 :: s1 :: s2 :: s3 :: s4 :: .pointer (some ⟨bt, 0, none⟩) :: s6 :: s7 :: s8 :: s9 :: s10 :: s11 :: s12 :: s13 :: s14 :: .pointer (some ⟨gm, 0, none⟩) :: s16 :: .int .i64 (b : Int) :: s18 :: s19 :: s20 :: s21 :: s22 :: s23 :: s24 :: s25 :: s26 :: s27 :: s28 :: s29 :: s30 :: s31 :: s32 :: s33 :: s34 :: s35 :: s36 :: s37 :: s38 :: s39 :: s40 :: s41 :: s42 :: s43 :: s44 :: s45 :: s46 :: s47 :: s48 :: s49 :: s50 :: s51 :: s52 :: s53 :: s54 :: s55 :: s56 :: s57 :: s58 :: s59 :: s60 :: s61 :: s62 :: s63 :: s64 :: s65 :: s66 :: s67 :: s68 :: s69 :: s70 :: s71 :: s72 :: s73 :: s74 :: s75 :: s76 :: s77 :: s78 :: s79 :: s80 :: s81 :: s82 :: s83 :: s84 :: s85 :: s86 :: s87 :: s88 :: s89 :: s90 :: s91 :: s92 :: s93 :: s94 :: s95 :: s96 :: s97 :: s98 :: s99 :: s100 :: s101 :: s102 :: s103 :: s104 :: s105 :: s106 :: s107 :: s108 :: s109 :: s110 :: s111 :: s112 :: s113 :: s114 :: s115 :: s116 :: s117 :: s118 :: s119 :: s120 :: s121 :: s122 :: s123 :: s124 :: s125 :: s126 :: s127 :: s128 :: s129 :: s130 :: s131 :: s132 :: s133 :: s134 :: s135 :: s136 :: s137 :: s138 :: s139 :: s140 :: s141 :: s142 :: s143 :: s144 :: s145 :: s146 :: s147 :: s148 :: s149 :: s150 :: s151 :: s152 :: s153 :: s154 :: s155 :: s156 :: s157 :: s158 :: s159 :: s160 :: s161 :: s162 :: s163 :: s164 :: s165 :: s166 :: s167 :: s168 :: s169 :: s170 :: s171 :: s172 :: s173 :: s174 :: s175 :: s176 :: s177 :: s178 :: s179 :: s180 :: s181 :: s182 :: s183 :: s184 :: s185 :: s186 :: s187 :: s188 :: s189 :: s190 :: s191 :: s192 :: s193 :: s194 :: s195 :: s196 :: s197 :: s198 :: s199 :: s200 :: s201 :: s202 :: s203 :: s204 :: s205 :: s206 :: s207 :: s208 :: s209 :: s210 :: s211 :: s212 :: s213 :: s214 :: s215 :: s216 :: s217 :: s218 :: s219 :: s220 :: s221 :: s222 :: s223 :: s224 :: s225 :: s226 :: s227 :: s228 :: s229 :: s230 :: s231 :: s232 :: s233 :: s234 :: s235 :: s236 :: s237 :: s238 :: s239 :: s240 :: s241 :: s242 :: s243 :: s244 :: []), []⟩ X := by
  obtain ⟨f0, ⟨f1, f2⟩, f3, f4⟩ := (unhide G).ac (j := b) hb
  have k0 : X.cell? ⟨gm, 0, none⟩ = some (.int .i64 (mate.f : Int)) := (unhide G).mt.cell 0 _ rfl
  have k1 : X.cell? ⟨gm, 1, none⟩ = some (.int .i64 (mate.t : Int)) := (unhide G).mt.cell 1 _ rfl
  have b0 : (0 : Int) ≤ (b : Int) := by omega
  have b1 : (b : Int) < (n : Int) := by omega
  show Code.wp _ (Code.region 32 _ _) _ _ _
  go_big_region
  all_goals
    go_wp2_with fail
  all_goals
    first
      | exact unhide rest _ _ _ _ _ _ _ _ ((unhide G).ahd b mate).drew
      | exact unhide rest _ _ _ _ _ _ _ _ ((unhide G).ahd b mate)
set_option maxRecDepth 100000 in
set_option maxHeartbeats 1000000 in
theorem r33_any {K : Act → World → Prop} {Q' : Exit → Act → World → Prop} {w X : World} {bt gl ga gr n : Nat} {t : Tp} {gk gm : Nat} {link mate : Lk} {a b r : Nat} (G : Hid (GS w X bt gl ga gr n t gk gm link mate)) (ha : a < n) (hb : b < n) (hr : Hid (rt t a = r)) {s0 s1 s2 s3 s4 s6 s7 s8 s9 s10 s11 s13 s14 s15 s16 s18 s19 s20 s21 s22 s23 s24 s25 s26 s27 s28 s29 s30 s31 s32 s33 s34 s35 s36 s37 s38 s39 s40 s41 s42 s43 s44 s45 s46 s47 s48 s49 s50 s51 s52 s53 s54 s55 s56 s57 s58 s59 s60 s61 s62 s63 s64 s65 s66 s67 s68 s69 s70 s71 s72 s73 s74 s75 s76 s77 s78 s79 s80 s81 s82 s83 s84 s85 s86 s87 s88 s89 s90 s91 s92 s93 s94 s95 s96 s97 s98 s99 s100 s101 s102 s103 s104 s105 s106 s107 s108 s109 s110 s111 s112 s113 s114 s115 s116 s117 s118 s119 s120 s121 s122 s123 s124 s125 s126 s127 s128 s129 s130 s131 s132 s133 s134 s135 s136 s137 s138 s139 s140 s141 s142 s143 s144 s145 s146 s147 s148 s149 s150 s151 s152 s153 s154 s155 s156 s157 s158 s159 s160 s161 s162 s163 s164 s165 s166 s167 s168 s169 s170 s171 s172 s173 s174 s175 s176 s177 s178 s179 s180 s181 s182 s183 s184 s185 s186 s187 s188 s189 s190 s191 s192 s193 s194 s195 s196 s197 s198 s199 s200 s201 s202 s203 s204 s205 s206 s207 s208 s209 s210 s211 s212 s213 s214 s215 s216 s217 s218 s219 s220 s221 s222 s223 s224 s225 s226 s227 s228 s229 s230 s231 s232 s233 s234 s235 s236 s237 s238 s239 s240 s241 s242 s243 s244 : Value}
    (rest : Hid (∀ (v231 v232 v233 v234 v235 v236 v237 v238 v239 v240 v241 v242 v243 : Value) (W : World), GS w W bt gl ga gr n ⟨t.label, t.ahead, t.root.set b r⟩ gk gm link mate → K ⟨List.toArray (s0 :: s1 :: s2 :: s3 :: s4 :: .pointer (some ⟨bt, 0, none⟩) :: s6 :: s7 :: s8 :: s9 :: s10 :: s11 :: .int .i64 (a : Int) :: s13 :: s14 :: s15 :: s16 :: .int .i64 (b : Int) :: s18 :: s19 :: s20 :: s21 :: s22 :: s23 :: s24 :: s25 :: s26 :: s27 :: s28 :: s29 :: s30 :: s31 :: s32 :: s33 :: s34 :: s35 :: s36 :: s37 :: s38 :: s39 :: s40 :: s41 :: s42 :: s43 :: s44 :: s45 :: s46 :: s47 :: s48 :: s49 :: s50 :: s51 :: s52 :: s53 :: s54 :: s55 :: s56 :: s57 :: s58 :: s59 :: s60 :: s61 :: s62 :: s63 :: s64 :: s65 :: s66 :: s67 :: s68 :: s69 :: s70 :: s71 :: s72 :: s73 :: s74 :: s75 :: s76 :: s77 :: s78 :: s79 :: s80 :: s81 :: s82 :: s83 :: s84 :: s85 :: s86 :: s87 :: s88 :: s89 :: s90 :: s91 :: s92 :: s93 :: s94 :: s95 :: s96 :: s97 :: s98 :: s99 :: s100 :: s101 :: s102 :: s103 :: s104 :: s105 :: s106 :: s107 :: s108 :: s109 :: s110 :: s111 :: s112 :: s113 :: s114 :: s115 :: s116 :: s117 :: s118 :: s119 :: s120 :: s121 :: s122 :: s123 :: s124 :: s125 :: s126 :: s127 :: s128 :: s129 :: s130 :: s131 :: s132 :: s133 :: s134 :: s135 :: s136 :: s137 :: s138 :: s139 :: s140 :: s141 :: s142 :: s143 :: s144 :: s145 :: s146 :: s147 :: s148 :: s149 :: s150 :: s151 :: s152 :: s153 :: s154 :: s155 :: s156 :: s157 :: s158 :: s159 :: s160 :: s161 :: s162 :: s163 :: s164 :: s165 :: s166 :: s167 :: s168 :: s169 :: s170 :: s171 :: s172 :: s173 :: s174 :: s175 :: s176 :: s177 :: s178 :: s179 :: s180 :: s181 :: s182 :: s183 :: s184 :: s185 :: s186 :: s187 :: s188 :: s189 :: s190 :: s191 :: s192 :: s193 :: s194 :: s195 :: s196 :: s197 :: s198 :: s199 :: s200 :: s201 :: s202 :: s203 :: s204 :: s205 :: s206 :: s207 :: s208 :: s209 :: s210 :: s211 :: s212 :: s213 :: s214 :: s215 :: s216 :: s217 :: s218 :: s219 :: s220 :: s221 :: s222 :: s223 :: s224 :: s225 :: s226 :: s227 :: s228 :: s229 :: s230 :: v231 :: v232 :: v233 :: v234 :: v235 :: v236 :: v237 :: v238 :: v239 :: v240 :: v241 :: v242 :: v243 :: s244 :: []), []⟩ W)) : (rgn Try.f71 33).wp Try.prog (Exit.then K Q') ⟨List.toArray (s0 :: s1 :: s2 :: s3 :: s4 :: .pointer (some ⟨bt, 0, none⟩) :: s6 :: s7 :: s8 :: s9 :: s10 :: s11 :: .int .i64 (a : Int) :: s13 :: s14 :: s15 :: s16 :: .int .i64 (b : Int) :: s18 :: s19 :: s20 :: s21 :: s22 :: s23 :: s24 :: s25 :: s26 :: s27 :: s28 :: s29 :: s30 :: s31 :: s32 :: s33 :: s34 :: s35 :: s36 :: s37 :: s38 :: s39 :: s40 :: s41 :: s42 :: s43 :: s44 :: s45 :: s46 :: s47 :: s48 :: s49 :: s50 :: s51 :: s52 :: s53 :: s54 :: s55 :: s56 :: s57 :: s58 :: s59 :: s60 :: s61 :: s62 :: s63 :: s64 :: s65 :: s66 :: s67 :: s68 :: s69 :: s70 :: s71 :: s72 :: s73 :: s74 :: s75 :: s76 :: s77 :: s78 :: s79 :: s80 :: s81 :: s82 :: s83 :: s84 :: s85 :: s86 :: s87 :: s88 :: s89 :: s90 :: s91 :: s92 :: s93 :: s94 :: s95 :: s96 :: s97 :: s98 :: s99 :: s100 :: s101 :: s102 :: s103 :: s104 :: s105 :: s106 :: s107 :: s108 :: s109 :: s110 :: s111 :: s112 :: s113 :: s114 :: s115 :: s116 :: s117 :: s118 :: s119 :: s120 :: s121 :: s122 :: s123 :: s124 :: s125 :: s126 :: s127 :: s128 :: s129 :: s130 :: s131 :: s132 :: s133 :: s134 :: s135 :: s136 :: s137 :: s138 :: s139 :: s140 :: s141 :: s142 :: s143 :: s144 :: s145 :: s146 :: s147 :: s148 :: s149 :: s150 :: s151 :: s152 :: s153 :: s154 :: s155 :: s156 :: s157 :: s158 :: s159 :: s160 :: s161 :: s162 :: s163 :: s164 :: s165 :: s166 :: s167 :: s168 :: s169 :: s170 :: s171 :: s172 :: s173 :: s174 :: s175 :: s176 :: s177 :: s178 :: s179 :: s180 :: s181 :: s182 :: s183 :: s184 :: s185 :: s186 :: s187 :: s188 :: s189 :: s190 :: s191 :: s192 :: s193 :: s194 :: s195 :: s196 :: s197 :: s198 :: s199 :: s200 :: s201 :: s202 :: s203 :: s204 :: s205 :: s206 :: s207 :: s208 :: s209 :: s210 :: s211 :: s212 :: s213 :: s214 :: s215 :: s216 :: s217 :: s218 :: s219 :: s220 :: s221 :: s222 :: s223 :: s224 :: s225 :: s226 :: s227 :: s228 :: s229 :: s230 :: s231 :: s232 :: s233 :: s234 :: s235 :: s236 :: s237 :: s238 :: s239 :: s240 :: s241 :: s242 :: s243 :: s244 :: []), []⟩ X := by
  obtain ⟨f0, f1, f2⟩ := (unhide G).rc (j := b) hb
  have g1 : X.cell? ⟨gr, a, none⟩ = some (.int .i64 (r : Int)) := by rw [((unhide G).rc (j := a) ha).2.1, unhide hr]
  have a0 : (0 : Int) ≤ (a : Int) := by omega
  have a1 : (a : Int) < (n : Int) := by omega
  have b0 : (0 : Int) ≤ (b : Int) := by omega
  have b1 : (b : Int) < (n : Int) := by omega
  show Code.wp _ (Code.region 33 _ _) _ _ _
  go_big_region
  all_goals
    go_wp2_with fail
  all_goals
    first
      | exact unhide rest _ _ _ _ _ _ _ _ _ _ _ _ _ _ ((unhide G).rot b r).drew
      | exact unhide rest _ _ _ _ _ _ _ _ _ _ _ _ _ _ ((unhide G).rot b r)
set_option maxRecDepth 100000 in
set_option maxHeartbeats 2000000 in
theorem r19_any {K : Act → World → Prop} {Q' : Exit → Act → World → Prop} {X : World} {b bt gl n ge ta tb xa xb : Nat} {A B x1 x2 x3 sl : Int}
    (HL : Hid (∀ W, Below X.heap.size X W → W.cell? ⟨bt, 0, none⟩ = some (.slice (some ⟨gl, 0, none⟩) n n) ∧ W.cell? ⟨gl, ta, none⟩ = some (.int .i64 (xa : Int)) ∧ W.cell? ⟨gl, tb, none⟩ = some (.int .i64 (xb : Int))))
    (HM : Hid (Blk X ge #[.int .i64 A, .int .i64 B, .int .i64 x1, .int .i64 x2, .int .i64 x3] 68))
    (SL : Hid (Calls Try.prog 77 #[.pointer (some ⟨b, 0, none⟩), .agg #[.int .i64 A, .int .i64 B, .int .i64 x1, .int .i64 x2, .int .i64 x3]] X fun u w' => u = .returned (.int .i64 sl) ∧ Below X.heap.size X w'))
    (hta : ta < n) (htb : tb < n) (hxa : Hid (xa = 1 ∨ xa = 2 ∨ xa = 0)) (hxb : Hid (xb = 1 ∨ xb = 2 ∨ xb = 0)) {s1 s2 s3 s4 s6 s7 s8 s9 s10 s14 s15 s16 s17 s18 s19 s20 s21 s22 s23 s24 s25 s26 s27 s28 s29 s30 s31 s32 s33 s34 s35 s36 s37 s38 s39 s40 s41 s42 s43 s44 s45 s46 s47 s48 s49 s50 s51 s52 s53 s54 s55 s56 s57 s58 s59 s60 s61 s62 s63 s64 s65 s66 s67 s68 s69 s70 s71 s72 s73 s74 s75 s76 s77 s78 s79 s80 s81 s82 s83 s84 s85 s86 s87 s88 s89 s90 s91 s92 s93 s94 s95 s96 s97 s98 s99 s100 s101 s102 s103 s104 s105 s106 s107 s108 s109 s110 s111 s112 s113 s114 s115 s116 s117 s118 s119 s120 s121 s122 s123 s124 s125 s126 s127 s128 s129 s130 s131 s132 s133 s134 s135 s136 s137 s138 s139 s140 s141 s142 s143 s144 s145 s146 s147 s148 s149 s150 s151 s152 s153 s154 s155 s156 s157 s158 s159 s160 s161 s162 s163 s164 s165 s166 s167 s168 s169 s170 s171 s172 s173 s174 s175 s176 s177 s178 s179 s180 s181 s182 s183 s184 s185 s186 s187 s188 s189 s190 s191 s192 s193 s194 s195 s196 s197 s198 s199 s200 s201 s202 s203 s204 s205 s206 s207 s208 s209 s210 s211 s212 s213 s214 s215 s216 s217 s218 s219 s220 s221 s222 s223 s224 s225 s226 s227 s228 s229 s230 s231 s232 s233 s234 s235 s236 s237 s238 s239 s240 s241 s242 s243 s244 : Value}
    (rest : Hid (∀ (v93 v94 v95 v96 v97 v98 v99 v100 v101 v102 v103 v104 v105 v106 v107 v108 v109 v110 v111 v112 v113 v114 v115 v116 v117 v118 v119 v120 v121 v122 v123 v124 v125 v126 v127 v128 v129 v130 v131 v132 v133 v134 v135 v136 v137 v138 v139 v140 : Value) (c : Bool) (W : World), c = (ta == tb || (sl != 0 || ((xa != 1 && xb != 1) || (xa == 2 || xb == 2)))) → Below X.heap.size X W → K ⟨List.toArray (.pointer (some ⟨b, 0, none⟩) :: s1 :: s2 :: s3 :: s4 :: .pointer (some ⟨bt, 0, none⟩) :: s6 :: s7 :: s8 :: s9 :: s10 :: .pointer (some ⟨ge, 0, none⟩) :: .int .i64 (ta : Int) :: .int .i64 (tb : Int) :: s14 :: s15 :: s16 :: s17 :: s18 :: s19 :: s20 :: s21 :: s22 :: s23 :: s24 :: s25 :: s26 :: s27 :: s28 :: s29 :: s30 :: s31 :: s32 :: s33 :: s34 :: s35 :: s36 :: s37 :: s38 :: s39 :: s40 :: s41 :: s42 :: s43 :: s44 :: s45 :: s46 :: s47 :: s48 :: s49 :: s50 :: s51 :: s52 :: s53 :: s54 :: s55 :: s56 :: s57 :: s58 :: s59 :: s60 :: s61 :: s62 :: s63 :: s64 :: s65 :: s66 :: s67 :: s68 :: s69 :: s70 :: s71 :: s72 :: s73 :: s74 :: s75 :: s76 :: s77 :: s78 :: s79 :: s80 :: s81 :: s82 :: s83 :: s84 :: s85 :: s86 :: s87 :: s88 :: s89 :: s90 :: s91 :: s92 :: v93 :: v94 :: v95 :: v96 :: v97 :: v98 :: v99 :: v100 :: v101 :: v102 :: v103 :: v104 :: v105 :: v106 :: v107 :: v108 :: v109 :: v110 :: v111 :: v112 :: v113 :: v114 :: v115 :: v116 :: v117 :: v118 :: v119 :: v120 :: v121 :: v122 :: v123 :: v124 :: v125 :: v126 :: v127 :: v128 :: v129 :: v130 :: v131 :: v132 :: v133 :: v134 :: v135 :: v136 :: v137 :: v138 :: v139 :: v140 :: .bool c :: s142 :: s143 :: s144 :: s145 :: s146 :: s147 :: s148 :: s149 :: s150 :: s151 :: s152 :: s153 :: s154 :: s155 :: s156 :: s157 :: s158 :: s159 :: s160 :: s161 :: s162 :: s163 :: s164 :: s165 :: s166 :: s167 :: s168 :: s169 :: s170 :: s171 :: s172 :: s173 :: s174 :: s175 :: s176 :: s177 :: s178 :: s179 :: s180 :: s181 :: s182 :: s183 :: s184 :: s185 :: s186 :: s187 :: s188 :: s189 :: s190 :: s191 :: s192 :: s193 :: s194 :: s195 :: s196 :: s197 :: s198 :: s199 :: s200 :: s201 :: s202 :: s203 :: s204 :: s205 :: s206 :: s207 :: s208 :: s209 :: s210 :: s211 :: s212 :: s213 :: s214 :: s215 :: s216 :: s217 :: s218 :: s219 :: s220 :: s221 :: s222 :: s223 :: s224 :: s225 :: s226 :: s227 :: s228 :: s229 :: s230 :: s231 :: s232 :: s233 :: s234 :: s235 :: s236 :: s237 :: s238 :: s239 :: s240 :: s241 :: s242 :: s243 :: s244 :: []), []⟩ W)) : (rgn Try.f71 19).wp Try.prog (Exit.then K Q') ⟨List.toArray (.pointer (some ⟨b, 0, none⟩) :: s1 :: s2 :: s3 :: s4 :: .pointer (some ⟨bt, 0, none⟩) :: s6 :: s7 :: s8 :: s9 :: s10 :: .pointer (some ⟨ge, 0, none⟩) :: .int .i64 (ta : Int) :: .int .i64 (tb : Int) :: s14 :: s15 :: s16 :: s17 :: s18 :: s19 :: s20 :: s21 :: s22 :: s23 :: s24 :: s25 :: s26 :: s27 :: s28 :: s29 :: s30 :: s31 :: s32 :: s33 :: s34 :: s35 :: s36 :: s37 :: s38 :: s39 :: s40 :: s41 :: s42 :: s43 :: s44 :: s45 :: s46 :: s47 :: s48 :: s49 :: s50 :: s51 :: s52 :: s53 :: s54 :: s55 :: s56 :: s57 :: s58 :: s59 :: s60 :: s61 :: s62 :: s63 :: s64 :: s65 :: s66 :: s67 :: s68 :: s69 :: s70 :: s71 :: s72 :: s73 :: s74 :: s75 :: s76 :: s77 :: s78 :: s79 :: s80 :: s81 :: s82 :: s83 :: s84 :: s85 :: s86 :: s87 :: s88 :: s89 :: s90 :: s91 :: s92 :: s93 :: s94 :: s95 :: s96 :: s97 :: s98 :: s99 :: s100 :: s101 :: s102 :: s103 :: s104 :: s105 :: s106 :: s107 :: s108 :: s109 :: s110 :: s111 :: s112 :: s113 :: s114 :: s115 :: s116 :: s117 :: s118 :: s119 :: s120 :: s121 :: s122 :: s123 :: s124 :: s125 :: s126 :: s127 :: s128 :: s129 :: s130 :: s131 :: s132 :: s133 :: s134 :: s135 :: s136 :: s137 :: s138 :: s139 :: s140 :: s141 :: s142 :: s143 :: s144 :: s145 :: s146 :: s147 :: s148 :: s149 :: s150 :: s151 :: s152 :: s153 :: s154 :: s155 :: s156 :: s157 :: s158 :: s159 :: s160 :: s161 :: s162 :: s163 :: s164 :: s165 :: s166 :: s167 :: s168 :: s169 :: s170 :: s171 :: s172 :: s173 :: s174 :: s175 :: s176 :: s177 :: s178 :: s179 :: s180 :: s181 :: s182 :: s183 :: s184 :: s185 :: s186 :: s187 :: s188 :: s189 :: s190 :: s191 :: s192 :: s193 :: s194 :: s195 :: s196 :: s197 :: s198 :: s199 :: s200 :: s201 :: s202 :: s203 :: s204 :: s205 :: s206 :: s207 :: s208 :: s209 :: s210 :: s211 :: s212 :: s213 :: s214 :: s215 :: s216 :: s217 :: s218 :: s219 :: s220 :: s221 :: s222 :: s223 :: s224 :: s225 :: s226 :: s227 :: s228 :: s229 :: s230 :: s231 :: s232 :: s233 :: s234 :: s235 :: s236 :: s237 :: s238 :: s239 :: s240 :: s241 :: s242 :: s243 :: s244 :: []), []⟩ X := by
  have m0 : X.cell? ⟨ge, 0, none⟩ = some (.int .i64 A) := (unhide HM).cell 0 _ rfl
  have m1 : X.cell? ⟨ge, 1, none⟩ = some (.int .i64 B) := (unhide HM).cell 1 _ rfl
  have m2 : X.cell? ⟨ge, 2, none⟩ = some (.int .i64 x1) := (unhide HM).cell 2 _ rfl
  have m3 : X.cell? ⟨ge, 3, none⟩ = some (.int .i64 x2) := (unhide HM).cell 3 _ rfl
  have m4 : X.cell? ⟨ge, 4, none⟩ = some (.int .i64 x3) := (unhide HM).cell 4 _ rfl
  have a0 : (0 : Int) ≤ (ta : Int) := by omega
  have a1 : (ta : Int) < (n : Int) := by omega
  have b0 : (0 : Int) ≤ (tb : Int) := by omega
  have b1 : (tb : Int) < (n : Int) := by omega
  have hab := nat_beq ta tb
  show Code.wp _ (Code.region 19 _ _) _ _ _
  generalize hbab : (ta == tb) = bab at hab rest
  cases bab with
  | true =>
    clear hbab
    go_wp2_with fail
    exact unhide rest _ _ _ _ _ _ _ _ _ _ _ _ _ _ _ _ _ _ _ _ _ _ _ _ _ _ _ _ _ _ _ _ _ _ _ _ _ _ _ _ _ _ _ _ _ _ _ _  true _ rfl (Below.refl _ _)
  | false =>
    clear hbab
    go_wp2_with fail
    refine (unhide SL).mono ?_
    rintro u W ⟨rfl, hW⟩
    obtain ⟨l0, la, lb⟩ := unhide HL W hW
    clear m0 m1 m2 m3 m4
    rcases Decidable.em (sl = 0) with hsl | hsl
    rotate_left
    · go_wp2_with fail
      exact unhide rest _ _ _ _ _ _ _ _ _ _ _ _ _ _ _ _ _ _ _ _ _ _ _ _ _ _ _ _ _ _ _ _ _ _ _ _ _ _ _ _ _ _ _ _ _ _ _ _  true _ (by simp [hsl]) hW
    · subst hsl
      rcases unhide hxa with e | e | e
      all_goals
        subst e
        rcases unhide hxb with e | e | e
      all_goals
        subst e
        go_wp2_with fail
      all_goals
        first
          | exact unhide rest _ _ _ _ _ _ _ _ _ _ _ _ _ _ _ _ _ _ _ _ _ _ _ _ _ _ _ _ _ _ _ _ _ _ _ _ _ _ _ _ _ _ _ _ _ _ _ _  true _ rfl hW
          | exact unhide rest _ _ _ _ _ _ _ _ _ _ _ _ _ _ _ _ _ _ _ _ _ _ _ _ _ _ _ _ _ _ _ _ _ _ _ _ _ _ _ _ _ _ _ _ _ _ _ _  false _ rfl hW
set_option maxRecDepth 100000 in
set_option maxHeartbeats 2000000 in
theorem r2_any {K : Act → World → Prop} {Q' : Exit → Act → World → Prop} {w : World} {n : Nat} (hn : n ≤ 1000000) {s0 s1 s2 s3 s5 s6 s7 s8 s9 s10 s11 s12 s13 s14 s15 s16 s17 s18 s19 s20 s21 s22 s23 s24 s25 s26 s27 s28 s29 s30 s31 s32 s33 s34 s35 s36 s37 s38 s39 s40 s41 s42 s43 s44 s45 s46 s47 s48 s49 s50 s51 s52 s53 s54 s55 s56 s57 s58 s59 s60 s61 s62 s63 s64 s65 s66 s67 s68 s69 s70 s71 s72 s73 s74 s75 s76 s77 s78 s79 s80 s81 s82 s83 s84 s85 s86 s87 s88 s89 s90 s91 s92 s93 s94 s95 s96 s97 s98 s99 s100 s101 s102 s103 s104 s105 s106 s107 s108 s109 s110 s111 s112 s113 s114 s115 s116 s117 s118 s119 s120 s121 s122 s123 s124 s125 s126 s127 s128 s129 s130 s131 s132 s133 s134 s135 s136 s137 s138 s139 s140 s141 s142 s143 s144 s145 s146 s147 s148 s149 s150 s151 s152 s153 s154 s155 s156 s157 s158 s159 s160 s161 s162 s163 s164 s165 s166 s167 s168 s169 s170 s171 s172 s173 s174 s175 s176 s177 s178 s179 s180 s181 s182 s183 s184 s185 s186 s187 s188 s189 s190 s191 s192 s193 s194 s195 s196 s197 s198 s199 s200 s201 s202 s203 s204 s205 s206 s207 s208 s209 s210 s211 s212 s213 s214 s215 s216 s217 s218 s219 s220 s221 s222 s223 s224 s225 s226 s227 s228 s229 s230 s231 s232 s233 s234 s235 s236 s237 s238 s239 s240 s241 s242 s243 s244 : Value}
    (rest : Hid (∀ (v23 v24 v25 v26 v27 v28 v29 v30 : Value) (bt gl ga gr : Nat) (W : World), TpW W bt w.heap.size (tp0 n) (.slice (some ⟨gl, 0, none⟩) n n) (.slice (some ⟨ga, 0, none⟩) n n) (.slice (some ⟨gr, 0, none⟩) n n) → Below w.heap.size w W → K ⟨List.toArray (s0 :: s1 :: s2 :: s3 :: .int .i64 (n : Int) :: .pointer (some ⟨bt, 0, none⟩) :: s6 :: s7 :: s8 :: s9 :: s10 :: s11 :: s12 :: s13 :: s14 :: s15 :: s16 :: s17 :: s18 :: s19 :: s20 :: s21 :: s22 :: v23 :: v24 :: v25 :: v26 :: v27 :: v28 :: v29 :: v30 :: s31 :: s32 :: s33 :: s34 :: s35 :: s36 :: s37 :: s38 :: s39 :: s40 :: s41 :: s42 :: s43 :: s44 :: s45 :: s46 :: s47 :: s48 :: s49 :: s50 :: s51 :: s52 :: s53 :: s54 :: s55 :: s56 :: s57 :: s58 :: s59 :: s60 :: s61 :: s62 :: s63 :: s64 :: s65 :: s66 :: s67 :: s68 :: s69 :: s70 :: s71 :: s72 :: s73 :: s74 :: s75 :: s76 :: s77 :: s78 :: s79 :: s80 :: s81 :: s82 :: s83 :: s84 :: s85 :: s86 :: s87 :: s88 :: s89 :: s90 :: s91 :: s92 :: s93 :: s94 :: s95 :: s96 :: s97 :: s98 :: s99 :: s100 :: s101 :: s102 :: s103 :: s104 :: s105 :: s106 :: s107 :: s108 :: s109 :: s110 :: s111 :: s112 :: s113 :: s114 :: s115 :: s116 :: s117 :: s118 :: s119 :: s120 :: s121 :: s122 :: s123 :: s124 :: s125 :: s126 :: s127 :: s128 :: s129 :: s130 :: s131 :: s132 :: s133 :: s134 :: s135 :: s136 :: s137 :: s138 :: s139 :: s140 :: s141 :: s142 :: s143 :: s144 :: s145 :: s146 :: s147 :: s148 :: s149 :: s150 :: s151 :: s152 :: s153 :: s154 :: s155 :: s156 :: s157 :: s158 :: s159 :: s160 :: s161 :: s162 :: s163 :: s164 :: s165 :: s166 :: s167 :: s168 :: s169 :: s170 :: s171 :: s172 :: s173 :: s174 :: s175 :: s176 :: s177 :: s178 :: s179 :: s180 :: s181 :: s182 :: s183 :: s184 :: s185 :: s186 :: s187 :: s188 :: s189 :: s190 :: s191 :: s192 :: s193 :: s194 :: s195 :: s196 :: s197 :: s198 :: s199 :: s200 :: s201 :: s202 :: s203 :: s204 :: s205 :: s206 :: s207 :: s208 :: s209 :: s210 :: s211 :: s212 :: s213 :: s214 :: s215 :: s216 :: s217 :: s218 :: s219 :: s220 :: s221 :: s222 :: s223 :: s224 :: s225 :: s226 :: s227 :: s228 :: s229 :: s230 :: s231 :: s232 :: s233 :: s234 :: s235 :: s236 :: s237 :: s238 :: s239 :: s240 :: s241 :: s242 :: s243 :: s244 :: []), []⟩ W)) : (rgn Try.f71 2).wp Try.prog (Exit.then K Q') ⟨List.toArray (s0 :: s1 :: s2 :: s3 :: .int .i64 (n : Int) :: s5 :: s6 :: s7 :: s8 :: s9 :: s10 :: s11 :: s12 :: s13 :: s14 :: s15 :: s16 :: s17 :: s18 :: s19 :: s20 :: s21 :: s22 :: s23 :: s24 :: s25 :: s26 :: s27 :: s28 :: s29 :: s30 :: s31 :: s32 :: s33 :: s34 :: s35 :: s36 :: s37 :: s38 :: s39 :: s40 :: s41 :: s42 :: s43 :: s44 :: s45 :: s46 :: s47 :: s48 :: s49 :: s50 :: s51 :: s52 :: s53 :: s54 :: s55 :: s56 :: s57 :: s58 :: s59 :: s60 :: s61 :: s62 :: s63 :: s64 :: s65 :: s66 :: s67 :: s68 :: s69 :: s70 :: s71 :: s72 :: s73 :: s74 :: s75 :: s76 :: s77 :: s78 :: s79 :: s80 :: s81 :: s82 :: s83 :: s84 :: s85 :: s86 :: s87 :: s88 :: s89 :: s90 :: s91 :: s92 :: s93 :: s94 :: s95 :: s96 :: s97 :: s98 :: s99 :: s100 :: s101 :: s102 :: s103 :: s104 :: s105 :: s106 :: s107 :: s108 :: s109 :: s110 :: s111 :: s112 :: s113 :: s114 :: s115 :: s116 :: s117 :: s118 :: s119 :: s120 :: s121 :: s122 :: s123 :: s124 :: s125 :: s126 :: s127 :: s128 :: s129 :: s130 :: s131 :: s132 :: s133 :: s134 :: s135 :: s136 :: s137 :: s138 :: s139 :: s140 :: s141 :: s142 :: s143 :: s144 :: s145 :: s146 :: s147 :: s148 :: s149 :: s150 :: s151 :: s152 :: s153 :: s154 :: s155 :: s156 :: s157 :: s158 :: s159 :: s160 :: s161 :: s162 :: s163 :: s164 :: s165 :: s166 :: s167 :: s168 :: s169 :: s170 :: s171 :: s172 :: s173 :: s174 :: s175 :: s176 :: s177 :: s178 :: s179 :: s180 :: s181 :: s182 :: s183 :: s184 :: s185 :: s186 :: s187 :: s188 :: s189 :: s190 :: s191 :: s192 :: s193 :: s194 :: s195 :: s196 :: s197 :: s198 :: s199 :: s200 :: s201 :: s202 :: s203 :: s204 :: s205 :: s206 :: s207 :: s208 :: s209 :: s210 :: s211 :: s212 :: s213 :: s214 :: s215 :: s216 :: s217 :: s218 :: s219 :: s220 :: s221 :: s222 :: s223 :: s224 :: s225 :: s226 :: s227 :: s228 :: s229 :: s230 :: s231 :: s232 :: s233 :: s234 :: s235 :: s236 :: s237 :: s238 :: s239 :: s240 :: s241 :: s242 :: s243 :: s244 :: []), []⟩ w := by
  have hx0 : (0 : Int) ≤ (n : Int) := by omega
  have hx1 : ¬ (n : Int) < 0 := by omega
  obtain ⟨i0, hi0, hz0, hz1, hz2⟩ := info_parts info_int
  obtain ⟨i1, hi1, hy0, hy1, hy2⟩ := info_parts info_link
  obtain ⟨A1, hA1⟩ : ∃ M, M = madeCells (Value.int .i64 0).cells (n * i0.size) := ⟨_, rfl⟩
  obtain ⟨B1, hB1⟩ : ∃ M, M = madeCells (Value.agg #[.int .i64 0, .int .i64 0]).cells (n * i1.size) := ⟨_, rfl⟩
  have hmk : ∀ W : World, (Instr.makeSlice 27 (.int .i64 (n : Int)) (.int .i64 (n : Int))).run Try.prog W = .ok (.slice (some ⟨W.heap.size, 0, none⟩) n n) (W.alloc (.cells A1 3)) := fun W => by
    have h := run_make (P := Try.prog) W 27 3 i0 (.int .i64 0) Try.underlying27 hi0 hz0 .i64 .i64 (n : Int) (n : Int) (by omega) (by omega) (by rw [hz2]; omega) (by omega)
    rw [Int.toNat_natCast, ← hA1] at h
    simpa using h
  have hml : ∀ W : World, (Instr.makeSlice 76 (.int .i64 (n : Int)) (.int .i64 (n : Int))).run Try.prog W = .ok (.slice (some ⟨W.heap.size, 0, none⟩) n n) (W.alloc (.cells B1 83)) := fun W => by
    have h := run_make (P := Try.prog) W 76 83 i1 (.agg #[.int .i64 0, .int .i64 0]) Try.underlying76 hi1 hy0 .i64 .i64 (n : Int) (n : Int) (by omega) (by omega) (by rw [hy2]; omega) (by omega)
    rw [Int.toNat_natCast, ← hB1] at h
    simpa using h
  have HA := hide (made_nats n A1 (by rw [hA1, hz1]))
  have HB := hide (made_links n B1 (by rw [hB1, hy1]))
  clear hA1 hB1
  show Code.wp _ (Code.region 2 _ _) _ _ _
  go_region
  all_goals
    go_wp2_with fail
  all_goals
    first
      | exact unhide rest _ _ _ _ _ _ _ _ (w.heap.size + 1 + 1 + 1) (w.heap.size) (w.heap.size + 1) (w.heap.size + 1 + 1) _ (tpw_new hn (unhide HA) (unhide HB) (heap4 w _ _ _ _).1 (heap4 w _ _ _ _).2.1 (heap4 w _ _ _ _).2.2.1 (heap4 w _ _ _ _).2.2.2 (by omega) (by omega) (by omega) (by omega) (by omega)) (below4 w _ _ _ _)
      | exact unhide rest _ _ _ _ _ _ _ _ (w.heap.size + 1 + 1 + 1) (w.heap.size) (w.heap.size + 1 + 1) (w.heap.size + 1) _ (tpw_new hn (unhide HA) (unhide HB) (heap4 w _ _ _ _).1 (heap4 w _ _ _ _).2.2.1 (heap4 w _ _ _ _).2.1 (heap4 w _ _ _ _).2.2.2 (by omega) (by omega) (by omega) (by omega) (by omega)) (below4 w _ _ _ _)
      | exact unhide rest _ _ _ _ _ _ _ _ (w.heap.size + 1 + 1 + 1) (w.heap.size + 1) (w.heap.size) (w.heap.size + 1 + 1) _ (tpw_new hn (unhide HA) (unhide HB) (heap4 w _ _ _ _).2.1 (heap4 w _ _ _ _).1 (heap4 w _ _ _ _).2.2.1 (heap4 w _ _ _ _).2.2.2 (by omega) (by omega) (by omega) (by omega) (by omega)) (below4 w _ _ _ _)
      | exact unhide rest _ _ _ _ _ _ _ _ (w.heap.size + 1 + 1 + 1) (w.heap.size + 1) (w.heap.size + 1 + 1) (w.heap.size) _ (tpw_new hn (unhide HA) (unhide HB) (heap4 w _ _ _ _).2.1 (heap4 w _ _ _ _).2.2.1 (heap4 w _ _ _ _).1 (heap4 w _ _ _ _).2.2.2 (by omega) (by omega) (by omega) (by omega) (by omega)) (below4 w _ _ _ _)
      | exact unhide rest _ _ _ _ _ _ _ _ (w.heap.size + 1 + 1 + 1) (w.heap.size + 1 + 1) (w.heap.size) (w.heap.size + 1) _ (tpw_new hn (unhide HA) (unhide HB) (heap4 w _ _ _ _).2.2.1 (heap4 w _ _ _ _).1 (heap4 w _ _ _ _).2.1 (heap4 w _ _ _ _).2.2.2 (by omega) (by omega) (by omega) (by omega) (by omega)) (below4 w _ _ _ _)
      | exact unhide rest _ _ _ _ _ _ _ _ (w.heap.size + 1 + 1 + 1) (w.heap.size + 1 + 1) (w.heap.size + 1) (w.heap.size) _ (tpw_new hn (unhide HA) (unhide HB) (heap4 w _ _ _ _).2.2.1 (heap4 w _ _ _ _).2.1 (heap4 w _ _ _ _).1 (heap4 w _ _ _ _).2.2.2 (by omega) (by omega) (by omega) (by omega) (by omega)) (below4 w _ _ _ _)
section
variable {w : World} {b lo : Nat} {aQ : Option Addr} {cQ s : Nat} {Q : List EdgeI} {y : List Int} {N : List Nd} {M : List Lk} {k : Int} {d : Bool} {vv : Vs}
def labelAt : Option (Nat × EdgeI) → Int
  | none => -1
  | some (i, _) => (i : Int)
set_option maxRecDepth 100000 in
set_option maxHeartbeats 4000000 in
theorem label_any (h : RunAt w b lo aQ cQ s Q y N M k d vv) (hlo : lo ≤ w.heap.size) (I : Inv s N M) (hn : N.length ≤ 1000000) (hM : M.length ≤ 1000000) (hE : ∀ v ∈ ends M, v < N.length) (hy : y.length = s) (hQ : ∀ e ∈ Q, (0 ≤ e.A ∧ e.A < (s : Int)) ∧ (0 ≤ e.B ∧ e.B < (s : Int))) (hQl : Q.length ≤ 1000000) :
    Calls Try.prog 71 #[.pointer (some ⟨b, 0, none⟩)] w fun u w' => (∃ bt vl va vr, u = .returned (.tuple #[.pointer (some ⟨bt, 0, none⟩), .int .i64 (labelAt (labels s Q y N M).2)]) ∧ TpW w' bt w.heap.size (labels s Q y N M).1 vl va vr) ∧ Below w.heap.size w w' := by
  obtain ⟨LL, hLL⟩ : ∃ L, L = labels s Q y N M := ⟨_, rfl⟩
  rw [← hLL]
  have HLL := hide hLL
  clear hLL
  obtain ⟨an, cn, en⟩ : ∃ a c, vv.n = .slice a N.length c := by
    rcases h.ns.2 with ⟨e, h0⟩ | ⟨g, cap, cur, e, _⟩
    · exact ⟨none, 0, by rw [e, h0]⟩
    · exact ⟨_, _, e⟩
  have q3 := h.box.cell 3 _ rfl
  rw [en] at q3
  have HH := hide h
  have HI := hide I
  have HQ := hide hQ
  have HE := hide hE
  have hbl := h.box.lt
  clear h I hQ hE
  obtain ⟨n, hN⟩ : ∃ n, n = N.length := ⟨_, rfl⟩
  rw [← hN] at q3 hn
  have HN := hide hN
  clear hN en
  have hx0 : (0 : Int) ≤ (n : Int) := by omega
  have hx1 : ¬ (n : Int) < 0 := by omega
  go_enter Try.func71, Try.ntmps71
  go_upto_region 2 with fail
  refine r2_any hn (hide ?_)
  intro v23 v24 v25 v26 v27 v28 v29 v30 bt gl ga gr wc hT hb0
  have HT0 := hide hT
  clear hT
  go_wp2_with fail
  go_loopw [6] (fun a6 wr => ∃ i : Nat, a6 = .int .i64 (i : Int) ∧ i ≤ n ∧ Hid (TpW wr bt w.heap.size (tpTo N M i) (.slice (some ⟨gl, 0, none⟩) n n) (.slice (some ⟨ga, 0, none⟩) n n) (.slice (some ⟨gr, 0, none⟩) n n)) ∧ Below w.heap.size w wr) (fun a6 _ => n - (intOf a6).toNat)
  case atStart => exact ⟨0, rfl, Nat.zero_le _, by show TpW _ _ _ _ _ _ _; rw [tpTo_zero, ← unhide HN]; exact unhide HT0, hb0⟩
  case round =>
    obtain ⟨i, rfl, hi, HT, hb⟩ := hrel
    by_cases hlt : i < n
    · have hi0 : (0 : Int) ≤ (i : Int) := by omega
      have hi1 : (i : Int) < (n : Int) := by omega
      have hzr := hb.size
      have MA := hide (mate_any ((unhide HH).below hb hlo) (Nat.le_trans hlo hb.size) (unhide HI).ups (by have := unhide HN; omega) hM (unhide HE) i)
      have IT := hide (fun w1 (h1 : Below wr.heap.size wr w1) => isTop_any ((unhide HH).below (hb.trans (h1.mono hb.size)) hlo) (by have := unhide HN; omega) i (by have := unhide HN; omega))
      have HNO := hide (tpTo_no N M i)
      have HYES := hide (tpTo_yes N M i)
      have HLN := hide (tpTo_len N M i)
      generalize tpTo N M i = t0 at HT HNO HYES HLN
      obtain ⟨t1, ht⟩ : ∃ t, t = tpTo N M (i + 1) := ⟨_, rfl⟩
      rw [← ht] at HNO HYES
      have HTE := hide ht
      clear ht
      obtain ⟨l1, l2, l3⟩ := unhide HLN
      rw [← unhide HN] at l1 l2 l3
      generalize (nd N i).gone = gn at IT HNO HYES
      generalize upA N i = up at IT HNO HYES
      go_wp2_with fail
      refine (unhide MA).mono ?_
      rintro u w1 ⟨rfl, hb1⟩
      have hw1 : w.heap.size ≤ w1.heap.size := Nat.le_trans hzr hb1.size
      cases hm : mateOf N M i with
      | some m =>
        have ht1 : t1 = t0 := unhide HNO (fun h => by rw [hm] at h; simp at h)
        subst ht1
        simp only [mateV, hm, lkA]
        go_wp2_with fail
        obtain ⟨V, hV⟩ : ∃ W, W = w1.alloc (Obj.cells #[.int .i64 (m.f : Int), .int .i64 (m.t : Int)] 83) := ⟨_, rfl⟩
        have bV : Below wr.heap.size wr V := by rw [hV]; exact hb1.alloc hb1.size _
        rw [← hV]
        clear hV
        refine (unhide IT V bV).mono ?_
        rintro u w2 ⟨rfl, rfl⟩
        have HT1 := hide ((unhide HT).below bV)
        have bw : Below w.heap.size w w2 := hb.trans (bV.mono hzr)
        have HT2 : Hid (TpW w2 bt w.heap.size (tpTo N M (i + 1)) (.slice (some ⟨gl, 0, none⟩) n n) (.slice (some ⟨ga, 0, none⟩) n n) (.slice (some ⟨gr, 0, none⟩) n n)) := by show TpW _ _ _ _ _ _ _; rw [← unhide HTE]; exact unhide HT1
        generalize (!gn && decide (up < 0)) = it
        cases it with
        | false =>
          go_wp2
          go_roundw
          case rel => exact ⟨i + 1, by go_num, by omega, HT2, bw⟩
          case measure => simp [intOf]; omega
        | true =>
          go_wp2
          go_roundw
          case rel => exact ⟨i + 1, by go_num, by omega, HT2, bw⟩
          case measure => simp [intOf]; omega
      | none =>
        simp only [mateV, hm, lkA]
        go_wp2_with fail
        obtain ⟨V, hV⟩ : ∃ W, W = w1.alloc (Obj.cells #[.int .i64 0, .int .i64 0] 83) := ⟨_, rfl⟩
        have bV : Below wr.heap.size wr V := by rw [hV]; exact hb1.alloc hb1.size _
        rw [← hV]
        clear hV
        refine (unhide IT V bV).mono ?_
        rintro u w2 ⟨rfl, rfl⟩
        have HT1 := hide ((unhide HT).below bV)
        have bw : Below w.heap.size w w2 := hb.trans (bV.mono hzr)
        have HY2 : Hid ((!gn && decide (up < 0)) = true → t1 = { { t0 with label := t0.label.set i 1 } with root := t0.root.set i i }) := fun hh => unhide HYES (by simp at hh; exact ⟨hh.1, hh.2, hm⟩)
        have HN2 : Hid ((!gn && decide (up < 0)) = false → t1 = t0) := fun hh => unhide HNO (fun h => by rw [h.1] at hh; simp at hh; omega)
        generalize (!gn && decide (up < 0)) = it at HY2 HN2
        cases it with
        | false =>
          have HT2 : Hid (TpW w2 bt w.heap.size (tpTo N M (i + 1)) (.slice (some ⟨gl, 0, none⟩) n n) (.slice (some ⟨ga, 0, none⟩) n n) (.slice (some ⟨gr, 0, none⟩) n n)) := by show TpW _ _ _ _ _ _ _; rw [← unhide HTE, unhide HN2 rfl]; exact unhide HT1
          go_wp2
          go_roundw
          case rel => exact ⟨i + 1, by go_num, by omega, HT2, bw⟩
          case measure => simp [intOf]; omega
        | true =>
          obtain ⟨s1, k1, q1⟩ := (unhide HT1).setLab (j := i) rfl l1 1
          obtain ⟨s2, k2, q2⟩ := s1.setRot (j := i) rfl l3 i
          have c0 : w2.cell? ⟨bt, 0, none⟩ = some (.slice (some ⟨gl, 0, none⟩) n n) := (unhide HT1).at_.box.cell 0 _ rfl
          obtain ⟨_, cl⟩ := (unhide HT1).lc rfl l1
          obtain ⟨cl1, cl2⟩ := cl i hlt
          have c2 : (w2.setCell ⟨gl, i, none⟩ (.int .i64 1)).cell? ⟨bt, 2, none⟩ = some (.slice (some ⟨gr, 0, none⟩) n n) := s1.at_.box.cell 2 _ rfl
          obtain ⟨_, cr⟩ := s1.rc rfl l3
          obtain ⟨cr1, cr2⟩ := cr i hlt
          have cr1' : (w2.setCell ⟨gl, i, none⟩ (.int .i64 1)).cell? ⟨gr, i, none⟩ = some (.int .i64 (rt t0 i : Int)) := cr1
          have cr2' : (w2.setCell ⟨gl, i, none⟩ (.int .i64 1)).frozen? ⟨gr, i, none⟩ = false := cr2
          have HT2 : Hid (TpW ((w2.setCell ⟨gl, i, none⟩ (.int .i64 1)).setCell ⟨gr, i, none⟩ (.int .i64 (i : Int))) bt w.heap.size (tpTo N M (i + 1)) (.slice (some ⟨gl, 0, none⟩) n n) (.slice (some ⟨ga, 0, none⟩) n n) (.slice (some ⟨gr, 0, none⟩) n n)) := by show TpW _ _ _ _ _ _ _; rw [← unhide HTE, unhide HY2 rfl]; exact s2
          have bw2 : Below w.heap.size w ((w2.setCell ⟨gl, i, none⟩ (.int .i64 1)).setCell ⟨gr, i, none⟩ (.int .i64 (i : Int))) := bw.trans (((k1.weak (T := fun k => k = gl ∨ k = gr) (fun _ h => Or.inl h)).trans (k2.weak (T := fun k => k = gl ∨ k = gr) (fun _ h => Or.inr h))).below (B := w.heap.size) bw.size (fun i hi => by rcases hi with rfl | rfl <;> assumption))
          clear s1 s2 k1 k2 cl cr cr1 cr2
          go_wp2
          go_roundw
          case rel => exact ⟨i + 1, by go_num, by omega, HT2, bw2⟩
          case measure => simp [intOf]; omega
    · obtain rfl : i = n := by omega
      have hi1 : ¬ (i : Int) < (i : Int) := by omega
      have HT1 : Hid (TpW wr bt w.heap.size (label0 N M) (.slice (some ⟨gl, 0, none⟩) i i) (.slice (some ⟨ga, 0, none⟩) i i) (.slice (some ⟨gr, 0, none⟩) i i)) := by
        show TpW _ _ _ _ _ _ _
        have e := tpTo_end N M
        rw [← unhide HN] at e
        rw [← e]; exact unhide HT
      have HS0 : Hid (labSt s Q y N M LL true (i + 1) (label0 N M)) := by
        show labSt _ _ _ _ _ _ _ _ _
        rw [unhide HLL, unhide HN]; exact labSt0 s Q y N M
      generalize label0 N M = t0 at HT1 HS0
      clear HT HT0 HLL
      obtain ⟨qn, hqn⟩ : ∃ qn, qn = Q.length := ⟨_, rfl⟩
      have HQN := hide hqn
      have q1 := (unhide HH).box.cell 1 _ rfl
      rw [← hqn] at q1 hQl
      clear hqn
      have HEC := hide (unhide HH).edges.2
      have hsn : s ≤ i := by have := unhide HN; have := (unhide HI).ge; omega
      have HTA := hide (fun w1 (hb : Below w.heap.size w w1) v (hv : v < i) => top_any ((unhide HH).below hb hlo) (unhide HI).ups (by have := unhide HN; omega) v (by have := unhide HN; omega))
      have HSA := hide (fun w1 (hb : Below w.heap.size w w1) e hA hB => slack_any ((unhide HH).below hb hlo) (Nat.le_trans hlo hb.size) (unhide HI).ups (by have := unhide HN; omega) (unhide HI).ge hy e hA hB)
      have HMA := hide (fun w1 (hb : Below w.heap.size w w1) p => mate_any ((unhide HH).below hb hlo) (Nat.le_trans hlo hb.size) (unhide HI).ups (by have := unhide HN; omega) hM (unhide HE) p)
      have HTL : Hid (∀ v, v < i → top N v < i) := fun v hv => by have := (top_spec (unhide HI).ups v (by have := unhide HN; omega)).1; have := unhide HN; omega
      have HY := hide hy
      clear hy
      go_wp2_with fail
      go_loopg [9] (2 * (i + 1) + 1) (fun k a9 wr => ∃ fd f t, a9 = .bool fd ∧ Hid (k = 2 * f + fd.toNat) ∧ Hid (TpW wr bt w.heap.size t (.slice (some ⟨gl, 0, none⟩) i i) (.slice (some ⟨ga, 0, none⟩) i i) (.slice (some ⟨gr, 0, none⟩) i i)) ∧ Hid (labSt s Q y N M LL fd f t) ∧ Below w.heap.size w wr)
      case atStart => exact ⟨true, i + 1, t0, rfl, rfl, HT1, HS0, hb⟩
      case round =>
        clear HT1 HS0 hb
        obtain ⟨fd, f, t, rfl, HK, HT, HS, hb⟩ := hrel
        cases fd with
        | false =>
          have e : Hid (LL = (t, none)) := HS
          have HR : Hid ((∃ bt' vl va vr, bt' = bt ∧ labelAt LL.2 = -1 ∧ TpW wr bt' w.heap.size LL.1 vl va vr)) := by
            show ∃ _, _
            rw [unhide e]; exact ⟨bt, _, _, _, rfl, rfl, unhide HT⟩
          clear HT HS HK
          go_wp2_with fail
          go_ret2
          obtain ⟨bt', vl, va, vr, rfl, e2, hT⟩ := unhide HR
          exact ⟨⟨bt', vl, va, vr, by rw [e2]; rfl, hT⟩, hb⟩
        | true =>
          obtain ⟨f', rfl⟩ := labSt_fuel (unhide HS)
          obtain ⟨rk, HF⟩ : ∃ rk, Hid (For s N M t rk) := (unhide HS).1
          go_wp2_with fail
          go_loopw [9, 10] (fun a9 a10 wr => ∃ fd T j, a9 = .bool fd ∧ a10 = .int .i64 ((j : Nat) : Int) ∧ j ≤ qn ∧ Hid (TpW wr bt w.heap.size T (.slice (some ⟨gl, 0, none⟩) i i) (.slice (some ⟨ga, 0, none⟩) i i) (.slice (some ⟨gr, 0, none⟩) i i)) ∧ Hid (inSt s Q y N M LL f' t fd T j) ∧ Below w.heap.size w wr) (fun _ a10 _ => qn - (intOf a10).toNat)
          case atStart => exact ⟨false, t, 0, rfl, rfl, Nat.zero_le _, HT, ⟨rfl, rfl⟩, hb⟩
          case round =>
            clear HT hb
            obtain ⟨fd, T, j, rfl, rfl, hj, HT, HI3, hb⟩ := hrel
            have p1 : wr.cell? ⟨b, 1, none⟩ = some (.slice aQ qn cQ) := (hb.cell (p := ⟨b, 1, none⟩) hbl).trans q1
            cases fd with
            | true =>
              have HS2 : Hid (labSt s Q y N M LL true f' T) := HI3
              by_cases hlt : j < qn
              · have hj1 : (j : Int) < (qn : Int) := by omega
                go_wp2_with fail
                go_roundg (2 * f' + 1)
                case rel => exact ⟨true, f', T, rfl, rfl, HT, HS2, hb⟩
                case measure => have := unhide HK; simp at this; omega
              · have hj1 : ¬ (j : Int) < (qn : Int) := by omega
                go_wp2_with fail
                go_roundg (2 * f' + 1)
                case rel => exact ⟨true, f', T, rfl, rfl, HT, HS2, hb⟩
                case measure => have := unhide HK; simp at this; omega
            | false =>
              obtain ⟨e, hP⟩ := unhide HI3
              have HP := hide hP
              have HTt : Hid (TpW wr bt w.heap.size t (.slice (some ⟨gl, 0, none⟩) i i) (.slice (some ⟨ga, 0, none⟩) i i) (.slice (some ⟨gr, 0, none⟩) i i)) := by show TpW _ _ _ _ _ _ _; rw [← e]; exact unhide HT
              clear e HT HI3 hP
              by_cases hlt : j < qn
              · have hjQ : j < Q.length := by have := unhide HQN; omega
                obtain ⟨ge, off, rfl, hge, d0, d1, d2, d3, d4⟩ := unhide HEC j hjQ
                have hj0 : (0 : Int) ≤ (j : Int) := by omega
                have hj1 : (j : Int) < (qn : Int) := by omega
                obtain ⟨rA, rB⟩ := unhide HQ _ (List.getElem_mem hjQ)
                have SL := hide (fun w1 hb1 => unhide HSA w1 hb1 _ rA rB)
                have HP2 := hide ((unhide HP).trans (pick_step t Q j hjQ))
                have SKIP : Hid (good s y N t Q[j] = false → inSt s Q y N M LL f' t false t (j + 1)) := fun h => ⟨rfl, by rw [unhide HP2, h]; rfl⟩
                have BOTH : Hid (good s y N t Q[j] = true → both N t Q[j] = true → LL = (t, some (j, Q[j]))) := fun h h2 => labSt_both (unhide HS) (by rw [unhide HP2, if_pos h]) h2
                have GROW : Hid (good s y N t Q[j] = true → both N t Q[j] = false → labSt s Q y N M LL true f' (growE N M t Q[j])) := fun h h2 => labSt_grow (unhide HI) (by omega) (by omega) (unhide HS) (by rw [unhide HP2, if_pos h]) h h2
                have HG : Hid (good s y N t Q[j] = !(top N Q[j].A.toNat == top N Q[j].B.toNat || (slack s y N Q[j] != 0 || ((lab t (top N Q[j].A.toNat) != 1 && lab t (top N Q[j].B.toNat) != 1) || (lab t (top N Q[j].A.toNat) == 2 || lab t (top N Q[j].B.toNat) == 2))))) := rfl
                have HB : Hid (both N t Q[j] = (lab t (top N Q[j].A.toNat) == 1 && lab t (top N Q[j].B.toNat) == 1)) := rfl
                have HGE : Hid (growE N M t Q[j] = if lab t (top N Q[j].A.toNat) = 1 then grow t (top N Q[j].A.toNat) (top N Q[j].B.toNat) (top N (mateD N M (top N Q[j].B.toNat)).t) ⟨Q[j].A.toNat, Q[j].B.toNat⟩ (mateD N M (top N Q[j].B.toNat)) else grow t (top N Q[j].B.toNat) (top N Q[j].A.toNat) (top N (mateD N M (top N Q[j].A.toNat)).t) ⟨Q[j].B.toNat, Q[j].A.toNat⟩ (mateD N M (top N Q[j].A.toNat))) := rfl
                generalize good s y N t Q[j] = gd at SKIP BOTH GROW HG
                generalize both N t Q[j] = bo at BOTH GROW HB
                generalize growE N M t Q[j] = t' at GROW HGE
                generalize slack s y N Q[j] = sl at SL HG
                clear HP HP2
                generalize Q[j] = q at d0 d1 d2 d3 d4 rA rB SL HG HB HGE BOTH
                obtain ⟨eA, eB, x1, x2, x3⟩ := q
                simp only at d0 d1 d2 d3 d4 rA rB HG HB HGE
                unfold EdgeI.v at SL
                simp only at SL
                obtain ⟨A, rfl⟩ := Int.eq_ofNat_of_zero_le rA.1
                obtain ⟨B, rfl⟩ := Int.eq_ofNat_of_zero_le rB.1
                rw [Int.toNat_natCast, Int.toNat_natCast] at HG HB HGE
                have hAs : A < s := by omega
                have hBs : B < s := by omega
                have hgw : ge < w.heap.size := by omega
                rw [← hb.cell (p := ⟨ge, off + j * 5, none⟩) (by simp; omega)] at d0
                rw [← hb.cell (p := ⟨ge, off + j * 5 + 1, none⟩) (by simp; omega)] at d1
                rw [← hb.cell (p := ⟨ge, off + j * 5 + 2, none⟩) (by simp; omega)] at d2
                rw [← hb.cell (p := ⟨ge, off + j * 5 + 3, none⟩) (by simp; omega)] at d3
                rw [← hb.cell (p := ⟨ge, off + j * 5 + 4, none⟩) (by simp; omega)] at d4
                have TA := hide (fun w1 hb1 => unhide HTA w1 hb1 A (by omega))
                have TB := hide (fun w1 hb1 => unhide HTA w1 hb1 B (by omega))
                have hta := unhide HTL A (by omega)
                have htb := unhide HTL B (by omega)
                have HMa : Hid (lab t (top N A) = 0 → ∃ m, mateOf N M (top N A) = some m ∧ mateD N M (top N A) = m) := fun h0 => grow_mate (unhide HI) (unhide HF) hAs h0
                have HMb : Hid (lab t (top N B) = 0 → ∃ m, mateOf N M (top N B) = some m ∧ mateD N M (top N B) = m) := fun h0 => grow_mate (unhide HI) (unhide HF) hBs h0
                have HTW : Hid (∀ x, lab t x ≤ 2) := (unhide HF).two
                generalize top N A = ta at TA HG HB HGE hta HMa
                generalize top N B = tb at TB HG HB HGE htb HMb
                obtain ⟨V, hV⟩ : ∃ W, W = wr.alloc (Obj.cells #[.int .i64 (A : Int), .int .i64 (B : Int), .int .i64 x1, .int .i64 x2, .int .i64 x3] 68) := ⟨_, rfl⟩
                have bV : Below wr.heap.size wr V := by rw [hV]; exact below_new _ _
                have mV : Blk V wr.heap.size #[.int .i64 (A : Int), .int .i64 (B : Int), .int .i64 x1, .int .i64 x2, .int .i64 x3] 68 := by rw [hV]; exact Blk.new0
                have BV : Below w.heap.size w V := hb.trans (bV.mono hb.size)
                have hgwr : ge < wr.heap.size := by have := hb.size; omega
                go_wp2_with fail
                rw [← hV]
                clear hV d0 d1 d2 d3 d4 p1
                have HTV := hide ((unhide HTt).below bV)
                have HMV := hide mV
                have HBV := hide BV
                have m0 : V.cell? ⟨wr.heap.size, 0, none⟩ = some (.int .i64 (A : Int)) := mV.cell 0 _ rfl
                have m1 : V.cell? ⟨wr.heap.size, 1, none⟩ = some (.int .i64 (B : Int)) := mV.cell 1 _ rfl
                have m2 : V.cell? ⟨wr.heap.size, 2, none⟩ = some (.int .i64 x1) := mV.cell 2 _ rfl
                have m3 : V.cell? ⟨wr.heap.size, 3, none⟩ = some (.int .i64 x2) := mV.cell 3 _ rfl
                have m4 : V.cell? ⟨wr.heap.size, 4, none⟩ = some (.int .i64 x3) := mV.cell 4 _ rfl
                have HA0 : Hid (lab t ta = 1 ∨ lab t ta = 2 ∨ lab t ta = 0) := by have := unhide HTW ta; show _ ∨ _; omega
                have HB0 : Hid (lab t tb = 1 ∨ lab t tb = 2 ∨ lab t tb = 0) := by have := unhide HTW tb; show _ ∨ _; omega
                have HLA : Hid (∀ W, TpW W bt w.heap.size t (.slice (some ⟨gl, 0, none⟩) i i) (.slice (some ⟨ga, 0, none⟩) i i) (.slice (some ⟨gr, 0, none⟩) i i) → W.cell? ⟨gl, ta, none⟩ = some (.int .i64 (lab t ta : Int)) ∧ W.cell? ⟨gl, tb, none⟩ = some (.int .i64 (lab t tb : Int))) := fun W h => ⟨((h.lc rfl (by rw [(unhide HF).l1]; exact (unhide HN).symm)).2 ta hta).1, ((h.lc rfl (by rw [(unhide HF).l1]; exact (unhide HN).symm)).2 tb htb).1⟩
                generalize lab t ta = xa at HG HB HGE HMa HA0 HLA
                generalize lab t tb = xb at HG HB HMb HB0 HLA HGE
                clear HTW mV BV
                go_wp2_with fail
                refine (unhide TA V (unhide HBV)).mono ?_
                rintro u w6 ⟨rfl, rfl⟩
                go_wp2_with fail
                refine (unhide TB w6 (unhide HBV)).mono ?_
                rintro u w7 ⟨rfl, rfl⟩
                go_upto_region 19 with fail
                have SL1 := hide (unhide SL w7 (unhide HBV))
                have HL7 : Hid (∀ W, Below w7.heap.size w7 W → W.cell? ⟨bt, 0, none⟩ = some (.slice (some ⟨gl, 0, none⟩) i i) ∧ W.cell? ⟨gl, ta, none⟩ = some (.int .i64 (xa : Int)) ∧ W.cell? ⟨gl, tb, none⟩ = some (.int .i64 (xb : Int))) := fun W hW => ⟨((unhide HTV).below hW).at_.box.cell 0 _ rfl, unhide HLA W ((unhide HTV).below hW)⟩
                refine r19_any HL7 HMV SL1 hta htb HA0 HB0 (hide ?_)
                intro v93 v94 v95 v96 v97 v98 v99 v100 v101 v102 v103 v104 v105 v106 v107 v108 v109 v110 v111 v112 v113 v114 v115 v116 v117 v118 v119 v120 v121 v122 v123 v124 v125 v126 v127 v128 v129 v130 v131 v132 v133 v134 v135 v136 v137 v138 v139 v140 c w8 hc b8
                have HT8 := hide ((unhide HTV).below b8)
                have HM8 := hide ((unhide HMV).below b8)
                have HB8 := hide ((unhide HBV).trans (b8.mono (unhide HBV).size))
                have HGc : Hid (gd = !c) := by show gd = _; rw [unhide HG, hc]
                have HC := hide hc
                clear hc HTV HMV SL1 HL7 SL HG m0 m1 m2 m3 m4 b8 TA TB
                cases c with
                | true =>
                  have HS2 : Hid (inSt s Q y N M LL f' t false t (j + 1)) := unhide SKIP (by rw [unhide HGc]; rfl)
                  clear HC HGc
                  go_wp2_with fail
                  exact ⟨⟨false, t, j + 1, rfl, by go_num, by omega, HT8, HS2, unhide HB8⟩, by simp [intOf]; omega⟩
                | false =>
                  have HNE : Hid (ta ≠ tb) := by
                    show ta ≠ tb
                    intro e
                    have := unhide HC
                    rw [e] at this
                    simp at this
                  have hx : Hid ((xa = 1 ∧ xb = 1) ∨ (xa = 1 ∧ xb = 0) ∨ (xa = 0 ∧ xb = 1)) := by
                    show _ ∨ _
                    have h1 := unhide HC
                    rcases unhide HA0 with e | e | e <;> rcases unhide HB0 with e2 | e2 | e2 <;> subst e <;> subst e2 <;> simp at h1 ⊢
                  clear HC HA0 HB0
                  have m0 : w8.cell? ⟨wr.heap.size, 0, none⟩ = some (.int .i64 (A : Int)) := (unhide HM8).cell 0 _ rfl
                  have m1 : w8.cell? ⟨wr.heap.size, 1, none⟩ = some (.int .i64 (B : Int)) := (unhide HM8).cell 1 _ rfl
                  have l0 : w8.cell? ⟨bt, 0, none⟩ = some (.slice (some ⟨gl, 0, none⟩) i i) := (unhide HT8).at_.box.cell 0 _ rfl
                  obtain ⟨la, lb⟩ := unhide HLA w8 (unhide HT8)
                  have a0 : (0 : Int) ≤ (ta : Int) := by omega
                  have a1 : (ta : Int) < (i : Int) := by omega
                  have b0 : (0 : Int) ≤ (tb : Int) := by omega
                  have b1 : (tb : Int) < (i : Int) := by omega
                  rcases unhide hx with ⟨e1, e2⟩ | ⟨e1, e2⟩ | ⟨e1, e2⟩
                  · subst e1
                    subst e2
                    have HL : Hid (LL = (t, some (j, ⟨(A : Int), (B : Int), x1, x2, x3⟩))) := unhide BOTH (by rw [unhide HGc]; rfl) (by rw [unhide HB]; rfl)
                    have HR : Hid (∃ vl va vr, labelAt LL.2 = (j : Int) ∧ TpW w8 bt w.heap.size LL.1 vl va vr) := by
                      show ∃ _, _
                      rw [unhide HL]; exact ⟨_, _, _, rfl, unhide HT8⟩
                    clear hx HL HM8
                    go_wp2_with fail
                    go_ret2
                    obtain ⟨vl, va, vr, e2, hT⟩ := unhide HR
                    refine ⟨?_, unhide HB8⟩
                    first | exact ⟨bt, by rw [e2]; rfl, vl, va, vr, hT⟩ | exact ⟨bt, vl, va, vr, by rw [e2]; rfl, hT⟩
                  · subst e1
                    subst e2
                    have HS2 : Hid (labSt s Q y N M LL true f' t') := unhide GROW (by rw [unhide HGc]; rfl) (by rw [unhide HB]; rfl)
                    clear hx
                    obtain ⟨m, hm, hmD⟩ := unhide HMb rfl
                    have HM := hide hm
                    have HT9 : Hid (t' = grow t ta tb (top N m.t) ⟨A, B⟩ m) := by
                      show t' = _
                      rw [unhide HGE]
                      rw [if_pos rfl, hmD]
                    have hmt : m.t < i := by have := unhide HE _ (mateOf_ends hm).2; have := unhide HN; omega
                    have htc := unhide HTL m.t hmt
                    clear hm hmD HMa HMb HGE
                    have HGK : Hid (gl < w8.heap.size ∧ ga < w8.heap.size ∧ gr < w8.heap.size) := ⟨((unhide HT8).lc rfl (by rw [(unhide HF).l1]; exact (unhide HN).symm)).1, ((unhide HT8).ac rfl (by rw [(unhide HF).l2]; exact (unhide HN).symm)).1, ((unhide HT8).rc rfl (by rw [(unhide HF).l3]; exact (unhide HN).symm)).1⟩
                    go_upto_region 23 with fail
                    obtain ⟨V2, hV2⟩ : ∃ W, W = w8.alloc (Obj.cells #[.int .i64 (A : Int), .int .i64 (B : Int)] 83) := ⟨_, rfl⟩
                    have HW2 : Hid (Below w8.heap.size w8 V2) := by show Below _ _ _; rw [hV2]; exact below_new _ _
                    have HK2 : Hid (Blk V2 w8.heap.size #[.int .i64 (A : Int), .int .i64 (B : Int)] 83) := by show Blk _ _ _ _; rw [hV2]; exact Blk.new0
                    rw [← hV2]
                    have HM2 := hide ((unhide HM8).below (unhide HW2))
                    have HT2 := hide ((unhide HT8).below (unhide HW2))
                    have HB2 := hide ((unhide HB8).trans ((unhide HW2).mono (unhide HB8).size))
                    have HS28 : Hid (w8.heap.size + 1 ≤ V2.heap.size) := by show _ ≤ _; rw [hV2]; show _ ≤ (w8.heap.push _).size; simp
                    clear hV2 m0 m1 l0 la lb
                    have l0 : V2.cell? ⟨bt, 0, none⟩ = some (.slice (some ⟨gl, 0, none⟩) i i) := (unhide HT2).at_.box.cell 0 _ rfl
                    obtain ⟨la, lb⟩ := unhide HLA V2 (unhide HT2)
                    have MA := hide (unhide HMA V2 (unhide HB2) tb)
                    go_wp2_with fail
                    refine (unhide MA).mono ?_
                    rintro u w3 ⟨rfl, b3⟩
                    have em : mateV N M tb = (lkA m, true) := by unfold mateV; rw [unhide HM]
                    rw [em]
                    simp only [lkA]
                    have HT3 := hide ((unhide HT2).below b3)
                    have HK3 := hide ((unhide HK2).below b3)
                    have HB3 := hide ((unhide HB2).trans (b3.mono (unhide HB2).size))
                    have HS3 : Hid (V2.heap.size ≤ w3.heap.size) := b3.size
                    clear b3 em MA l0 la lb
                    go_wp2_with fail
                    obtain ⟨V4, hV4⟩ : ∃ W, W = w3.alloc (Obj.cells #[.int .i64 (m.f : Int), .int .i64 (m.t : Int)] 83) := ⟨_, rfl⟩
                    have b4 : Below w3.heap.size w3 V4 := by rw [hV4]; exact below_new _ _
                    have HM4 : Hid (Blk V4 w3.heap.size #[.int .i64 (m.f : Int), .int .i64 (m.t : Int)] 83) := by show Blk _ _ _ _; rw [hV4]; exact Blk.new0
                    rw [← hV4]
                    have HB4 := hide ((unhide HB3).trans (b4.mono (unhide HB3).size))
                    have HG0 : Hid (GS w V4 bt gl ga gr i t w8.heap.size w3.heap.size ⟨A, B⟩ m) := ⟨(unhide HT3).below b4, (unhide HK3).below b4, unhide HM4, by have := unhide HGK; omega, by have := unhide HGK; have := unhide HS28; have := unhide HS3; omega, by rw [(unhide HF).l1]; exact (unhide HN).symm, by rw [(unhide HF).l2]; exact (unhide HN).symm, by rw [(unhide HF).l3]; exact (unhide HN).symm, unhide HB4⟩
                    clear hV4 b4 HT3 HK3 HT2 HK2 HT8 HM8 HM2 HB2 HB3 HM4 HGK HS28 HS3 HW2
                    refine (unhide HTA V4 (unhide HB4) m.t hmt).mono ?_
                    rintro u w5 ⟨rfl, rfl⟩
                    generalize top N m.t = tc at HT9 htc
                    have c0' : (0 : Int) ≤ (tc : Int) := by omega
                    have c1' : (tc : Int) < (i : Int) := by omega
                    have hne : Hid (ta ≠ tb) := by show ta ≠ tb; have := unhide HNE; omega
                    generalize w8.heap.size = gk at HG0 ⊢
                    generalize w3.heap.size = gm at HG0 ⊢
                    obtain ⟨f0, f1, f2⟩ := (unhide HG0).lc (j := tb) htb
                    go_upto_region 29 with fail
                    obtain ⟨X1, hX1⟩ : ∃ W, W = w5.setCell ⟨gl, tb, none⟩ (.int .i64 2) := ⟨_, rfl⟩
                    have G1 : Hid (GS w X1 bt gl ga gr i ⟨t.label.set tb 2, t.ahead, t.root⟩ gk gm ⟨A, B⟩ m) := by show GS _ _ _ _ _ _ _ _ _ _ _ _; rw [hX1]; exact (unhide HG0).lab tb 2
                    rw [← hX1]
                    clear hX1 f0 f1 f2 HG0 HB4
                    refine r29_any G1 htb (hide ?_)
                    intro v198 v199 v200 v201 v202 v203 v204 X2 hG2
                    dsimp only at hG2
                    have G2 := hide hG2
                    clear hG2 G1
                    go_upto_region 30 with fail
                    refine r30_any (r := rt t ta) G2 hta htb (hide rfl) (hide ?_)
                    intro v205 v206 v207 v208 v209 v210 v211 v212 v213 v214 v215 v216 v217 X3 hG3
                    dsimp only at hG3
                    have G3 := hide hG3
                    clear hG3 G2
                    obtain ⟨f0, f1, f2⟩ := (unhide G3).lc (j := tc) htc
                    go_upto_region 32 with fail
                    obtain ⟨X4, hX4⟩ : ∃ W, W = X3.setCell ⟨gl, tc, none⟩ (.int .i64 1) := ⟨_, rfl⟩
                    have G4 : Hid (GS w X4 bt gl ga gr i ⟨(t.label.set tb 2).set tc 1, t.ahead.set tb ⟨A, B⟩, t.root.set tb (rt t ta)⟩ gk gm ⟨A, B⟩ m) := by show GS _ _ _ _ _ _ _ _ _ _ _ _; rw [hX4]; exact (unhide G3).lab tc 1
                    rw [← hX4]
                    clear hX4 f0 f1 f2 G3
                    refine r32_any G4 htc (hide ?_)
                    intro v224 v225 v226 v227 v228 v229 v230 X5 hG5
                    dsimp only at hG5
                    have G5 := hide hG5
                    clear hG5 G4
                    go_upto_region 33 with fail
                    refine r33_any (r := rt t ta) G5 hta htc (hide (rt_other t _ (unhide hne))) (hide ?_)
                    intro v231 v232 v233 v234 v235 v236 v237 v238 v239 v240 v241 v242 v243 X6 hG6
                    have hG7 : GS w X6 bt gl ga gr i (grow t ta tb tc ⟨A, B⟩ m) gk gm ⟨A, B⟩ m := hG6
                    rw [← unhide HT9] at hG7
                    have HT6 := hide hG7.tp
                    have HB6 := hide hG7.bw
                    clear hG6 hG7 G5
                    go_wp2_with fail
                    exact ⟨⟨true, t', j + 1, rfl, by go_num, by omega, HT6, HS2, unhide HB6⟩, by simp [intOf]; omega⟩
                  · subst e1
                    subst e2
                    have HS2 : Hid (labSt s Q y N M LL true f' t') := unhide GROW (by rw [unhide HGc]; rfl) (by rw [unhide HB]; rfl)
                    clear hx
                    obtain ⟨m, hm, hmD⟩ := unhide HMa rfl
                    have HM := hide hm
                    have HT9 : Hid (t' = grow t tb ta (top N m.t) ⟨B, A⟩ m) := by
                      show t' = _
                      rw [unhide HGE]
                      rw [if_neg (by decide), hmD]
                    have hmt : m.t < i := by have := unhide HE _ (mateOf_ends hm).2; have := unhide HN; omega
                    have htc := unhide HTL m.t hmt
                    clear hm hmD HMa HMb HGE
                    have HGK : Hid (gl < w8.heap.size ∧ ga < w8.heap.size ∧ gr < w8.heap.size) := ⟨((unhide HT8).lc rfl (by rw [(unhide HF).l1]; exact (unhide HN).symm)).1, ((unhide HT8).ac rfl (by rw [(unhide HF).l2]; exact (unhide HN).symm)).1, ((unhide HT8).rc rfl (by rw [(unhide HF).l3]; exact (unhide HN).symm)).1⟩
                    go_upto_region 23 with fail
                    obtain ⟨V2, hV2⟩ : ∃ W, W = w8.alloc (Obj.cells #[.int .i64 (A : Int), .int .i64 (B : Int)] 83) := ⟨_, rfl⟩
                    have HW2 : Hid (Below w8.heap.size w8 V2) := by show Below _ _ _; rw [hV2]; exact below_new _ _
                    have HK2 : Hid (Blk V2 w8.heap.size #[.int .i64 (A : Int), .int .i64 (B : Int)] 83) := by show Blk _ _ _ _; rw [hV2]; exact Blk.new0
                    rw [← hV2]
                    have HM2 := hide ((unhide HM8).below (unhide HW2))
                    have HT2 := hide ((unhide HT8).below (unhide HW2))
                    have HB2 := hide ((unhide HB8).trans ((unhide HW2).mono (unhide HB8).size))
                    have HS28 : Hid (w8.heap.size + 1 ≤ V2.heap.size) := by show _ ≤ _; rw [hV2]; show _ ≤ (w8.heap.push _).size; simp
                    clear hV2 m0 m1 l0 la lb
                    have l0 : V2.cell? ⟨bt, 0, none⟩ = some (.slice (some ⟨gl, 0, none⟩) i i) := (unhide HT2).at_.box.cell 0 _ rfl
                    obtain ⟨la, lb⟩ := unhide HLA V2 (unhide HT2)
                    have v0 : V2.cell? ⟨wr.heap.size, 0, none⟩ = some (.int .i64 (A : Int)) := (unhide HM2).cell 0 _ rfl
                    have v1 : V2.cell? ⟨wr.heap.size, 1, none⟩ = some (.int .i64 (B : Int)) := (unhide HM2).cell 1 _ rfl
                    have u0 : V2.cell? ⟨w8.heap.size, 0, none⟩ = some (.int .i64 (A : Int)) := (unhide HK2).cell 0 _ rfl
                    have u1 : V2.cell? ⟨w8.heap.size, 1, none⟩ = some (.int .i64 (B : Int)) := (unhide HK2).cell 1 _ rfl
                    have z0 := (unhide HK2).froz 0
                    have z1 := (unhide HK2).froz 1
                    go_upto_region 25 with fail
                    obtain ⟨V9, hV9⟩ : ∃ W, W = (V2.setCell ⟨w8.heap.size, 0, none⟩ (.int .i64 (B : Int))).setCell ⟨w8.heap.size, 1, none⟩ (.int .i64 (A : Int)) := ⟨_, rfl⟩
                    have HK9 : Hid (Blk V9 w8.heap.size #[.int .i64 (B : Int), .int .i64 (A : Int)] 83) := by show Blk _ _ _ _; rw [hV9]; exact ((unhide HK2).set 0 _).set 1 _
                    have HW9 : Hid (Below w8.heap.size w8 V9) := by show Below _ _ _; rw [hV9]; exact ((unhide HW2).setCell (Nat.le_refl _) _).setCell (Nat.le_refl _) _
                    have HS9 : Hid (w8.heap.size + 1 ≤ V9.heap.size) := by show _ ≤ _; rw [hV9]; simpa [World.setCell] using unhide HS28
                    rw [← hV9]
                    clear hV9 v0 v1 u0 u1 z0 z1 l0 la lb HK2 HM2 HT2 HB2 HS28 HW2
                    have HT2 := hide ((unhide HT8).below (unhide HW9))
                    have HB2 := hide ((unhide HB8).trans ((unhide HW9).mono (unhide HB8).size))
                    have l0 : V9.cell? ⟨bt, 0, none⟩ = some (.slice (some ⟨gl, 0, none⟩) i i) := (unhide HT2).at_.box.cell 0 _ rfl
                    obtain ⟨la, lb⟩ := unhide HLA V9 (unhide HT2)
                    have MA := hide (unhide HMA V9 (unhide HB2) ta)
                    go_wp2_with fail
                    refine (unhide MA).mono ?_
                    rintro u w3 ⟨rfl, b3⟩
                    have em : mateV N M ta = (lkA m, true) := by unfold mateV; rw [unhide HM]
                    rw [em]
                    simp only [lkA]
                    have HT3 := hide ((unhide HT2).below b3)
                    have HK3 := hide ((unhide HK9).below b3)
                    have HB3 := hide ((unhide HB2).trans (b3.mono (unhide HB2).size))
                    have HS3 : Hid (V9.heap.size ≤ w3.heap.size) := b3.size
                    clear b3 em MA l0 la lb
                    go_wp2_with fail
                    obtain ⟨V4, hV4⟩ : ∃ W, W = w3.alloc (Obj.cells #[.int .i64 (m.f : Int), .int .i64 (m.t : Int)] 83) := ⟨_, rfl⟩
                    have b4 : Below w3.heap.size w3 V4 := by rw [hV4]; exact below_new _ _
                    have HM4 : Hid (Blk V4 w3.heap.size #[.int .i64 (m.f : Int), .int .i64 (m.t : Int)] 83) := by show Blk _ _ _ _; rw [hV4]; exact Blk.new0
                    rw [← hV4]
                    have HB4 := hide ((unhide HB3).trans (b4.mono (unhide HB3).size))
                    have HG0 : Hid (GS w V4 bt gl ga gr i t w8.heap.size w3.heap.size ⟨B, A⟩ m) := ⟨(unhide HT3).below b4, (unhide HK3).below b4, unhide HM4, by have := unhide HGK; omega, by have := unhide HGK; have := unhide HS9; have := unhide HS3; omega, by rw [(unhide HF).l1]; exact (unhide HN).symm, by rw [(unhide HF).l2]; exact (unhide HN).symm, by rw [(unhide HF).l3]; exact (unhide HN).symm, unhide HB4⟩
                    clear hV4 b4 HT3 HK3 HT2 HK9 HT8 HM8 HB2 HB3 HM4 HGK HS9 HS3 HW9
                    refine (unhide HTA V4 (unhide HB4) m.t hmt).mono ?_
                    rintro u w5 ⟨rfl, rfl⟩
                    generalize top N m.t = tc at HT9 htc
                    have c0' : (0 : Int) ≤ (tc : Int) := by omega
                    have c1' : (tc : Int) < (i : Int) := by omega
                    have hne : Hid (tb ≠ ta) := by show tb ≠ ta; have := unhide HNE; omega
                    generalize w8.heap.size = gk at HG0 ⊢
                    generalize w3.heap.size = gm at HG0 ⊢
                    obtain ⟨f0, f1, f2⟩ := (unhide HG0).lc (j := ta) hta
                    go_upto_region 29 with fail
                    obtain ⟨X1, hX1⟩ : ∃ W, W = w5.setCell ⟨gl, ta, none⟩ (.int .i64 2) := ⟨_, rfl⟩
                    have G1 : Hid (GS w X1 bt gl ga gr i ⟨t.label.set ta 2, t.ahead, t.root⟩ gk gm ⟨B, A⟩ m) := by show GS _ _ _ _ _ _ _ _ _ _ _ _; rw [hX1]; exact (unhide HG0).lab ta 2
                    rw [← hX1]
                    clear hX1 f0 f1 f2 HG0 HB4
                    refine r29_any G1 hta (hide ?_)
                    intro v198 v199 v200 v201 v202 v203 v204 X2 hG2
                    dsimp only at hG2
                    have G2 := hide hG2
                    clear hG2 G1
                    go_upto_region 30 with fail
                    refine r30_any (r := rt t tb) G2 htb hta (hide rfl) (hide ?_)
                    intro v205 v206 v207 v208 v209 v210 v211 v212 v213 v214 v215 v216 v217 X3 hG3
                    dsimp only at hG3
                    have G3 := hide hG3
                    clear hG3 G2
                    obtain ⟨f0, f1, f2⟩ := (unhide G3).lc (j := tc) htc
                    go_upto_region 32 with fail
                    obtain ⟨X4, hX4⟩ : ∃ W, W = X3.setCell ⟨gl, tc, none⟩ (.int .i64 1) := ⟨_, rfl⟩
                    have G4 : Hid (GS w X4 bt gl ga gr i ⟨(t.label.set ta 2).set tc 1, t.ahead.set ta ⟨B, A⟩, t.root.set ta (rt t tb)⟩ gk gm ⟨B, A⟩ m) := by show GS _ _ _ _ _ _ _ _ _ _ _ _; rw [hX4]; exact (unhide G3).lab tc 1
                    rw [← hX4]
                    clear hX4 f0 f1 f2 G3
                    refine r32_any G4 htc (hide ?_)
                    intro v224 v225 v226 v227 v228 v229 v230 X5 hG5
                    dsimp only at hG5
                    have G5 := hide hG5
                    clear hG5 G4
                    go_upto_region 33 with fail
                    refine r33_any (r := rt t tb) G5 htb htc (hide (rt_other t _ (unhide hne))) (hide ?_)
                    intro v231 v232 v233 v234 v235 v236 v237 v238 v239 v240 v241 v242 v243 X6 hG6
                    have hG7 : GS w X6 bt gl ga gr i (grow t tb ta tc ⟨B, A⟩ m) gk gm ⟨B, A⟩ m := hG6
                    rw [← unhide HT9] at hG7
                    have HT6 := hide hG7.tp
                    have HB6 := hide hG7.bw
                    clear hG6 hG7 G5
                    go_wp2_with fail
                    exact ⟨⟨true, t', j + 1, rfl, by go_num, by omega, HT6, HS2, unhide HB6⟩, by simp [intOf]; omega⟩
              · have HS2 : Hid (labSt s Q y N M LL false (f' + 1) t) := labSt_none (unhide HS) (by
                  have e1 : j = Q.length := by have := unhide HQN; omega
                  rw [unhide HP, e1]; exact pick_end t Q)
                have hj1 : ¬ (j : Int) < (qn : Int) := by omega
                clear HP
                go_wp2_with fail
                go_roundg (2 * (f' + 1))
                case rel => exact ⟨false, f' + 1, t, rfl, rfl, HTt, HS2, hb⟩
                case measure => have := unhide HK; simp at this; omega
end
end Sv
end Go.Proofs.Ytkjclkelnheheaa
