/-
 Rg2, RhD.
-/
import Derived.Test.YtihnaddfpmjpaaaGreatDoorJ15
import Derived.Test.YtihnaddfpmjpaaaGreatDoorJ17
namespace Go.Proofs.YtihnaddfpmjpaaaGreatDoor
namespace Rg
open Go.RowKit
open Gr (Blk)
def rdD (s : ByteArray) : Option Nat := if s.size ≤ 10 then (match Dc.rf10 s s.size 0 0 with | none => none | some n => if n ≤ 1000000000 ∧ Lib.itoa (n : Int) = s.toList then some n else none) else none
theorem rd_any (s : ByteArray) (w : World) : Calls Tryz.prog 98 #[.string s] w fun e w' => e = .returned (.tuple #[.int .i64 (oN (rdD s)), .bool (rdD s).isSome]) ∧ Below w.heap.size w w' := by
  unfold rdD
  by_cases h : s.size ≤ 10
  · rw [if_pos h]
    refine (Dc.specRD_yes s h w).mono ?_
    rintro e w' ⟨rfl, hb⟩
    refine ⟨?_, hb⟩
    cases hr : Dc.rf10 s s.size 0 0 with
    | none => rfl
    | some n =>
      simp only [Dc.rdOut]
      split <;> rfl
  · rw [if_neg h]
    refine (Dc.specRD_no s (by omega) w).mono ?_
    rintro e w' ⟨rfl, rfl⟩
    exact ⟨rfl, Below.refl _ _⟩
theorem rdD_le {s : ByteArray} {n : Nat} (h : rdD s = some n) : n ≤ 1000000000 := by
  unfold rdD at h
  split at h
  · split at h
    · simp at h
    · split at h
      · rename_i hh
        simp at h
        omega
      · simp at h
  · simp at h
theorem get_size : ∀ (Q : PL) (k : ByteArray), (oT (getP Q k)).size ≤ Tr.totP Q
  | [], k => Nat.zero_le _
  | q :: r, k => by
    have h := get_size r k
    rw [getP]
    unfold Tr.totP at *
    rw [List.map_cons, List.sum_cons]
    split
    · simp [oT]; omega
    · omega
def poolP (Q : PL) (r : Nat) : List Int := (oT (getP Q (qk r))).toList.map fun b => (b.toNat : Int)
theorem own_int {w1 : World} {B e : Nat} {v' : Value} {L : List Int} {x : Int} (h : w1.ownsRow B e 1 v' (L.length + 1) (Gr.intsV L ++ [.int .i64 x])) : w1.ownsRow B e 1 v' (L ++ [x]).length (Gr.intsV (L ++ [x])) := by
  simpa [Gr.intsV] using h
set_option maxRecDepth 100000 in
set_option maxHeartbeats 2000000 in
theorem pool_any (a : Option Addr) (len cap B : Nat) (Q : PL) (r : Nat) (hr : r ≤ 1000000) (hlen : len ≤ 1048576) (htot : Tr.totP Q ≤ 1048576) (w : World) (hB : B ≤ w.heap.size) (hs : Tr.PairsAt w a len B Q) :
    Calls Tryz.prog 99 #[.slice a len cap, .int .i64 (r : Int)] w fun e w' => (∃ d, e = .returned d ∧ Gr.InOwn w' w.heap.size d (poolP Q r)) ∧ Below w.heap.size w w' := by
  obtain ⟨i0, hi0, hz0, hz1, hz2⟩ := info_parts Gr.info3
  have HG := hide (fun k w1 (hb : Below w.heap.size w w1) => get_any a len cap B Q k (by omega) w1 (hs.below hb hB))
  have TW := hide (fun w1 => two_any r hr w1)
  have tz := tw_size r (by omega)
  have hV : (oT (getP Q (qk r))).size ≤ 1048576 := Nat.le_trans (get_size Q _) htot
  have HP : Hid (poolP Q r = (oT (getP Q (qk r))).toList.map fun b => (b.toNat : Int)) := rfl
  have HG1 := hide (fun w1 hb => unhide HG (qk r) w1 hb)
  have HK0 : Hid (ByteArray.mk #[113] ++ tw r = qk r) := rfl
  generalize poolP Q r = P at HP ⊢
  generalize (getP Q (qk r)).isSome = bs at HG1
  generalize oT (getP Q (qk r)) = V at HP hV HG1
  have hz : ¬ 9223372036854775807 < (ByteArray.mk #[113]).size + (tw r).size := by have : (ByteArray.mk #[113]).size = 1 := rfl; omega
  clear hs
  go_enter Tryz.func99, Tryz.ntmps99
  go_wp2_with fail
  refine (unhide TW w).mono ?_
  rintro e w1 ⟨rfl, hb1⟩
  go_wp2_with fail
  rw [unhide HK0]
  refine (unhide HG1 w1 hb1).mono ?_
  rintro e w2 ⟨rfl, rfl⟩
  have hbs := hb1.size
  have HO0 : Hid ((w2.alloc (.cells #[] 3)).ownsRow w.heap.size 3 1 (.slice (some ⟨w2.heap.size, 0, none⟩) 0 0) 0 (Gr.intsV [])) := Gr.own_lower hbs (World.ownsRow_made w2 #[] 0 (by omega) (Nat.zero_le _) rfl)
  have HP0 : Hid (P = [] ++ (V.toList.drop 0).map fun b => (b.toNat : Int)) := by show _ = _; rw [unhide HP]; rfl
  have hVl : V.toList.length = V.size := by rw [ByteArray.toList_eq]; simp
  have HVL := hide hVl
  have HB0 : Hid (Below w.heap.size w (w2.alloc (.cells #[] 3))) := hb1.alloc hbs _
  clear hVl
  go_wp2_with fail
  go_loopw [7, 8] (fun v i wr => ∃ (j : Nat) (L : List Int), i = .int .i64 (j : Int) ∧ j ≤ V.size ∧ Hid (L.length = j) ∧ Hid (P = L ++ (V.toList.drop j).map fun b => (b.toNat : Int)) ∧ Hid (wr.ownsRow w.heap.size 3 1 v L.length (Gr.intsV L)) ∧ Below w.heap.size w wr) (fun _ i _ => V.size - (intOf i).toNat)
  case atStart => exact ⟨0, [], rfl, Nat.zero_le _, rfl, unhide HP0, unhide HO0, unhide HB0⟩
  case round =>
    obtain ⟨j, L, rfl, hj, HLJ, HY, HO, hb⟩ := hrel
    have hown := unhide HO
    have hbs2 := hb.size
    by_cases hlt : j < V.size
    · have hB : ((V[j]'hlt).toNat : Int) ≤ 255 := by have := UInt8.toNat_lt (V[j]'hlt); omega
      have hLL : L.length ≤ 1048576 := by have := unhide HLJ; omega
      have HY2 : Hid (P = (L ++ [((V[j]'hlt).toNat : Int)]) ++ (V.toList.drop (j + 1)).map fun b => (b.toNat : Int)) := by
        show _ = _
        rw [unhide HY, List.drop_eq_getElem_cons (by rw [unhide HVL]; exact hlt), List.map_cons, List.append_assoc]
        have : (V.toList[j]'(by rw [unhide HVL]; exact hlt)) = V[j]'hlt := by simp [ByteArray.toList_eq]; rfl
        rw [this]
        rfl
      obtain ⟨x, hx⟩ : ∃ x : Int, x = ((V[j]'hlt).toNat : Int) := ⟨_, rfl⟩
      go_wp2_with (at_builtin; refine wpList_append_own _ rfl _ _ 24 rfl w.heap.size 3 i0 (.int .i64 0) 1 8 Tryz.underlying24 hi0 hz0 hz1 hz2 rfl (by decide) _ _ _ rfl (hown.alloc _) ⟨wr.heap.size, 0, none⟩ 1 1 [.int .i64 ((V[j]'hlt).toNat : Int)] rfl rfl (cell_one_new _ _ _) (by intro u hu; simp at hu; subst hu; rfl) ?c3 ?c4 ?c5 ?_)
      case c3 => unfold maxLen; omega
      case c4 => omega
      case c5 => simp; omega
      intro v' w3 hown' hgrow _
      have hb3 := below_append hb (Nat.le_refl _) hown hgrow
      have HO2 := hide (own_int hown')
      clear hown hown' hgrow hx
      go_wp2_with fail
      exact ⟨⟨j + 1, _, by go_num, by omega, by show _ = _; rw [List.length_append, unhide HLJ]; rfl, unhide HY2, unhide HO2, hb3⟩, by simp [intOf]; omega⟩
    · have hPe : P = L := by rw [unhide HY, List.drop_eq_nil_of_le (by rw [unhide HVL]; omega)]; simp
      have HO2 : Hid (Gr.InOwn wr w.heap.size u7 P) := by rw [hPe]; exact hown
      clear hown hPe
      go_wp2
      go_ret
      exact ⟨⟨_, rfl, unhide HO2⟩, hb⟩
def vOk (n : Nat) (a : Option Nat) (v : ByteArray) : Bool :=
  match a with
  | none => false
  | some m => if 12 ≤ m then false else if (v.toList == [97]) = true then true else if (v.toList == [108]) = true then true else if v.size < 2 then false else if byteAt v 0 ≠ 112 then false else
    match rdD (v.extract 1 v.size) with
    | none => false
    | some r => decide (r < n)
def eOk (h1 h2 : Bool) (a b : Option Nat) (v : ByteArray) : Bool :=
  match a with
  | none => false
  | some x => match b with
    | none => false
    | some y => if y ≤ x then false else if v.size ≠ 3 then false else h1 && (h2 && (decide (byteAt v 0 ≤ 50) && (decide (byteAt v 1 ≤ 50) && decide (byteAt v 2 ≤ 50))))
def rOk (n : Nat) (a b : Option Nat) : Bool := match a with | none => false | some x => match b with | none => false | some _ => decide (x < n)
def qOk (n : Nat) (a : Option Nat) : Bool := match a with | none => false | some x => decide (x < n)
def keyOk (Q : PL) (n : Nat) (k v : ByteArray) : Bool :=
  if k.size = 3 then
    if byteAt k 0 = 118 then vOk n (numP (k.extract 1 k.size)) v
    else if byteAt k 0 = 113 then qOk n (numP (k.extract 1 k.size)) else false
  else if k.size = 5 then
    if byteAt k 0 = 101 then eOk (getP Q (ByteArray.mk #[118] ++ k.extract 1 3)).isSome (getP Q (ByteArray.mk #[118] ++ k.extract 3 k.size)).isSome (numP (k.extract 1 3)) (numP (k.extract 3 k.size)) v
    else if byteAt k 0 = 114 then rOk n (numP (k.extract 1 3)) (numP (k.extract 3 k.size)) else false
  else false
set_option maxRecDepth 100000 in
set_option maxHeartbeats 4000000 in
theorem key_v (a : Option Addr) (len cap B : Nat) (Q : PL) (n : Nat) (k v : ByteArray) (_hn : n ≤ 1000000) (_hlen : len ≤ 1048576) (_hk8 : k.size ≤ 1000) (w : World) (_hB : B ≤ w.heap.size) (_hs : Tr.PairsAt w a len B Q) (h3 : k.size = 3) (hb : byteAt k 0 = 118) :
    Calls Tryz.prog 69 #[.slice a len cap, .agg #[.string k, .string v], .int .i64 (n : Int)] w fun e w' => e = .returned (.bool (vOk n (numP (k.extract 1 k.size)) v)) ∧ Below w.heap.size w w' := by
  have l0 : 0 < k.size := by omega
  have e0 := byteAt_eq l0
  have kz : (k.size : Int) ≤ 1000 := by omega
  have ki : (0 : Int) < (k.size : Int) := by omega
  have hsz : ((k.size : Int) == 3) = true := by rw [h3]; rfl
  have hs5 : ((k.size : Int) == 5) = false := by rw [h3]; rfl
  have ki1 : (1 : Int) ≤ (k.size : Int) := by omega
  rw [e0] at hb
  have hbyte : (((k[0]'l0).toNat : Int) == 118) = true := by rw [hb]; rfl
  clear e0 hb h3
  have NU := hide (fun w1 => num_any (k.extract 1 k.size) w1)
  have HNB := hide (fun m h => numP_le (t := k.extract 1 k.size) (n := m) h)
  generalize numP (k.extract 1 k.size) = oa at NU HNB ⊢
  cases oa with
  | none =>
    have NU1 : Hid (∀ w1, Calls Tryz.prog 63 #[.string (k.extract 1 k.size)] w1 fun e w' => e = .returned (.tuple #[.int .i64 0, .bool false]) ∧ Below w1.heap.size w1 w') := NU
    clear NU HNB
    go_enter Tryz.func69, Tryz.ntmps69
    go_wp2_with fail
    obtain ⟨V, hV⟩ : ∃ W, W = (w.alloc (Obj.cells #[Value.string k, Value.string v] 55)) := ⟨_, rfl⟩
    rw [← hV]
    have b0 : Below w.heap.size w V := by rw [hV]; exact Gr.below_new _ _
    have m0 : Blk V w.heap.size #[.string k, .string v] 55 := by rw [hV]; exact Gr.Blk.new0
    clear hV
    refine (unhide NU1 _).mono ?_
    rintro e w1 ⟨rfl, hb1⟩
    have b1 := b0.trans (hb1.mono b0.size)
    have m1 := m0.below hb1
    have c1 : w1.cell? ⟨w.heap.size, 1, none⟩ = some (.string v) := m1.cell 1 _ rfl
    go_wp2
    go_ret
    exact ⟨rfl, b1⟩
  | some m =>
    have NU1 : Hid (∀ w1, Calls Tryz.prog 63 #[.string (k.extract 1 k.size)] w1 fun e w' => e = .returned (.tuple #[.int .i64 ((m : Nat) : Int), .bool true]) ∧ Below w1.heap.size w1 w') := NU
    have hm99 := unhide HNB m rfl
    clear NU HNB
    by_cases h12 : 12 ≤ m
    · have hX : vOk n (some m) v = false := by simp only [vOk]; rw [if_pos h12]
      rw [hX]
      have hm : (12 : Int) ≤ (m : Int) := by omega
      clear hX
      go_enter Tryz.func69, Tryz.ntmps69
      go_wp2_with fail
      obtain ⟨V, hV⟩ : ∃ W, W = (w.alloc (Obj.cells #[Value.string k, Value.string v] 55)) := ⟨_, rfl⟩
      rw [← hV]
      have b0 : Below w.heap.size w V := by rw [hV]; exact Gr.below_new _ _
      have m0 : Blk V w.heap.size #[.string k, .string v] 55 := by rw [hV]; exact Gr.Blk.new0
      clear hV
      refine (unhide NU1 _).mono ?_
      rintro e w1 ⟨rfl, hb1⟩
      have b1 := b0.trans (hb1.mono b0.size)
      have m1 := m0.below hb1
      have c1 : w1.cell? ⟨w.heap.size, 1, none⟩ = some (.string v) := m1.cell 1 _ rfl
      go_wp2
      go_ret
      exact ⟨rfl, b1⟩
    · have hm : ¬ (12 : Int) ≤ (m : Int) := by omega
      cases ha : (v.toList == [97])
      · cases hl : (v.toList == [108])
        · by_cases hv2 : v.size < 2
          · have hX : vOk n (some m) v = false := by simp only [vOk]; rw [if_neg h12, ha, hl]; simp [hv2]
            rw [hX]
            have hv2i : (v.size : Int) < 2 := by omega
            clear hX h12
            go_enter Tryz.func69, Tryz.ntmps69
            go_wp2_with fail
            obtain ⟨V, hV⟩ : ∃ W, W = (w.alloc (Obj.cells #[Value.string k, Value.string v] 55)) := ⟨_, rfl⟩
            rw [← hV]
            have b0 : Below w.heap.size w V := by rw [hV]; exact Gr.below_new _ _
            have m0 : Blk V w.heap.size #[.string k, .string v] 55 := by rw [hV]; exact Gr.Blk.new0
            clear hV
            refine (unhide NU1 _).mono ?_
            rintro e w1 ⟨rfl, hb1⟩
            have b1 := b0.trans (hb1.mono b0.size)
            have m1 := m0.below hb1
            have c1 : w1.cell? ⟨w.heap.size, 1, none⟩ = some (.string v) := m1.cell 1 _ rfl
            go_wp2
            go_ret
            exact ⟨rfl, b1⟩
          · have lv : 0 < v.size := by omega
            have ev := byteAt_eq lv
            by_cases hp : byteAt v 0 = 112
            · have RD := hide (fun w1 => rd_any (v.extract 1 v.size) w1)
              have HX : Hid (vOk n (some m) v = match rdD (v.extract 1 v.size) with | none => false | some r => decide (r < n)) := by show _ = _; simp only [vOk]; rw [if_neg h12, ha, hl]; simp [hv2, hp]
              have HRB := hide (fun r h => rdD_le (s := v.extract 1 v.size) (n := r) h)
              generalize vOk n (some m) v = X at HX ⊢
              rw [ev] at hp
              have hpb : (((v[0]'lv).toNat : Int) != 112) = false := by rw [hp]; rfl
              have hv2i : ¬ (v.size : Int) < 2 := by omega
              have hvi : (0 : Int) < (v.size : Int) := by omega
              have hvi1 : (1 : Int) ≤ (v.size : Int) := by omega
              generalize rdD (v.extract 1 v.size) = od at RD HX HRB
              clear h12 ev hp hv2
              cases od with
              | none =>
                have RD1 : Hid (∀ w1, Calls Tryz.prog 98 #[.string (v.extract 1 v.size)] w1 fun e w' => e = .returned (.tuple #[.int .i64 0, .bool false]) ∧ Below w1.heap.size w1 w') := RD
                have hX : X = false := unhide HX
                subst hX
                clear RD HRB HX
                go_enter Tryz.func69, Tryz.ntmps69
                go_wp2_with fail
                obtain ⟨V, hV⟩ : ∃ W, W = (w.alloc (Obj.cells #[Value.string k, Value.string v] 55)) := ⟨_, rfl⟩
                rw [← hV]
                have b0 : Below w.heap.size w V := by rw [hV]; exact Gr.below_new _ _
                have m0 : Blk V w.heap.size #[.string k, .string v] 55 := by rw [hV]; exact Gr.Blk.new0
                clear hV
                refine (unhide NU1 _).mono ?_
                rintro e w1 ⟨rfl, hb1⟩
                have b1 := b0.trans (hb1.mono b0.size)
                have m1 := m0.below hb1
                have c1 : w1.cell? ⟨w.heap.size, 1, none⟩ = some (.string v) := m1.cell 1 _ rfl
                go_wp2_with fail
                refine (unhide RD1 _).mono ?_
                rintro e w2 ⟨rfl, hb2⟩
                have b2 := b1.trans (hb2.mono b1.size)
                have m2 := m1.below hb2
                have c2 : w2.cell? ⟨w.heap.size, 1, none⟩ = some (.string v) := m2.cell 1 _ rfl
                go_wp2
                go_ret
                exact ⟨rfl, b2⟩
              | some r =>
                have RD1 : Hid (∀ w1, Calls Tryz.prog 98 #[.string (v.extract 1 v.size)] w1 fun e w' => e = .returned (.tuple #[.int .i64 ((r : Nat) : Int), .bool true]) ∧ Below w1.heap.size w1 w') := RD
                have hr9 := unhide HRB r rfl
                have hX : X = decide (r < n) := unhide HX
                clear RD HRB HX
                subst hX
                go_enter Tryz.func69, Tryz.ntmps69
                go_wp2_with fail
                obtain ⟨V, hV⟩ : ∃ W, W = (w.alloc (Obj.cells #[Value.string k, Value.string v] 55)) := ⟨_, rfl⟩
                rw [← hV]
                have b0 : Below w.heap.size w V := by rw [hV]; exact Gr.below_new _ _
                have m0 : Blk V w.heap.size #[.string k, .string v] 55 := by rw [hV]; exact Gr.Blk.new0
                clear hV
                refine (unhide NU1 _).mono ?_
                rintro e w1 ⟨rfl, hb1⟩
                have b1 := b0.trans (hb1.mono b0.size)
                have m1 := m0.below hb1
                have c1 : w1.cell? ⟨w.heap.size, 1, none⟩ = some (.string v) := m1.cell 1 _ rfl
                go_wp2_with fail
                refine (unhide RD1 _).mono ?_
                rintro e w2 ⟨rfl, hb2⟩
                have b2 := b1.trans (hb2.mono b1.size)
                have m2 := m1.below hb2
                have c2 : w2.cell? ⟨w.heap.size, 1, none⟩ = some (.string v) := m2.cell 1 _ rfl
                go_wp2
                go_ret
                exact ⟨rfl, b2⟩
            · have hX : vOk n (some m) v = false := by simp only [vOk]; rw [if_neg h12, ha, hl]; simp [hv2, hp]
              rw [hX]
              rw [ev] at hp
              have hpb : (((v[0]'lv).toNat : Int) != 112) = true := by rw [bne_iff_ne]; omega
              have hv2i : ¬ (v.size : Int) < 2 := by omega
              have hvi : (0 : Int) < (v.size : Int) := by omega
              clear hX h12 ev hp hv2
              go_enter Tryz.func69, Tryz.ntmps69
              go_wp2_with fail
              obtain ⟨V, hV⟩ : ∃ W, W = (w.alloc (Obj.cells #[Value.string k, Value.string v] 55)) := ⟨_, rfl⟩
              rw [← hV]
              have b0 : Below w.heap.size w V := by rw [hV]; exact Gr.below_new _ _
              have m0 : Blk V w.heap.size #[.string k, .string v] 55 := by rw [hV]; exact Gr.Blk.new0
              clear hV
              refine (unhide NU1 _).mono ?_
              rintro e w1 ⟨rfl, hb1⟩
              have b1 := b0.trans (hb1.mono b0.size)
              have m1 := m0.below hb1
              have c1 : w1.cell? ⟨w.heap.size, 1, none⟩ = some (.string v) := m1.cell 1 _ rfl
              go_wp2
              go_ret
              exact ⟨rfl, b1⟩
        · have hX : vOk n (some m) v = true := by simp only [vOk]; rw [if_neg h12, ha, hl]; simp
          rw [hX]
          clear hX h12
          go_enter Tryz.func69, Tryz.ntmps69
          go_wp2_with fail
          obtain ⟨V, hV⟩ : ∃ W, W = (w.alloc (Obj.cells #[Value.string k, Value.string v] 55)) := ⟨_, rfl⟩
          rw [← hV]
          have b0 : Below w.heap.size w V := by rw [hV]; exact Gr.below_new _ _
          have m0 : Blk V w.heap.size #[.string k, .string v] 55 := by rw [hV]; exact Gr.Blk.new0
          clear hV
          refine (unhide NU1 _).mono ?_
          rintro e w1 ⟨rfl, hb1⟩
          have b1 := b0.trans (hb1.mono b0.size)
          have m1 := m0.below hb1
          have c1 : w1.cell? ⟨w.heap.size, 1, none⟩ = some (.string v) := m1.cell 1 _ rfl
          go_wp2
          go_ret
          exact ⟨rfl, b1⟩
      · have hX : vOk n (some m) v = true := by simp only [vOk]; rw [if_neg h12, ha]; simp
        rw [hX]
        clear hX h12
        go_enter Tryz.func69, Tryz.ntmps69
        go_wp2_with fail
        obtain ⟨V, hV⟩ : ∃ W, W = (w.alloc (Obj.cells #[Value.string k, Value.string v] 55)) := ⟨_, rfl⟩
        rw [← hV]
        have b0 : Below w.heap.size w V := by rw [hV]; exact Gr.below_new _ _
        have m0 : Blk V w.heap.size #[.string k, .string v] 55 := by rw [hV]; exact Gr.Blk.new0
        clear hV
        refine (unhide NU1 _).mono ?_
        rintro e w1 ⟨rfl, hb1⟩
        have b1 := b0.trans (hb1.mono b0.size)
        have m1 := m0.below hb1
        have c1 : w1.cell? ⟨w.heap.size, 1, none⟩ = some (.string v) := m1.cell 1 _ rfl
        go_wp2
        go_ret
        exact ⟨rfl, b1⟩
set_option maxRecDepth 100000 in
set_option maxHeartbeats 4000000 in
theorem key_q (a : Option Addr) (len cap B : Nat) (Q : PL) (n : Nat) (k v : ByteArray) (_hn : n ≤ 1000000) (_hlen : len ≤ 1048576) (_hk8 : k.size ≤ 1000) (w : World) (_hB : B ≤ w.heap.size) (_hs : Tr.PairsAt w a len B Q) (h3 : k.size = 3) (hb : byteAt k 0 = 113) :
    Calls Tryz.prog 69 #[.slice a len cap, .agg #[.string k, .string v], .int .i64 (n : Int)] w fun e w' => e = .returned (.bool (qOk n (numP (k.extract 1 k.size)))) ∧ Below w.heap.size w w' := by
  have l0 : 0 < k.size := by omega
  have e0 := byteAt_eq l0
  have kz : (k.size : Int) ≤ 1000 := by omega
  have ki : (0 : Int) < (k.size : Int) := by omega
  have hsz : ((k.size : Int) == 3) = true := by rw [h3]; rfl
  have hs5 : ((k.size : Int) == 5) = false := by rw [h3]; rfl
  have ki1 : (1 : Int) ≤ (k.size : Int) := by omega
  rw [e0] at hb
  have hbyte : (((k[0]'l0).toNat : Int) == 113) = true := by rw [hb]; rfl
  have hno118 : (((k[0]'l0).toNat : Int) == 118) = false := by rw [hb]; rfl
  clear e0 hb h3
  have NU := hide (fun w1 => num_any (k.extract 1 k.size) w1)
  have HNB := hide (fun m h => numP_le (t := k.extract 1 k.size) (n := m) h)
  generalize numP (k.extract 1 k.size) = oa at NU HNB ⊢
  cases oa with
  | none =>
    have NU1 : Hid (∀ w1, Calls Tryz.prog 63 #[.string (k.extract 1 k.size)] w1 fun e w' => e = .returned (.tuple #[.int .i64 0, .bool false]) ∧ Below w1.heap.size w1 w') := NU
    clear NU HNB
    go_enter Tryz.func69, Tryz.ntmps69
    go_wp2_with fail
    obtain ⟨V, hV⟩ : ∃ W, W = (w.alloc (Obj.cells #[Value.string k, Value.string v] 55)) := ⟨_, rfl⟩
    rw [← hV]
    have b0 : Below w.heap.size w V := by rw [hV]; exact Gr.below_new _ _
    have m0 : Blk V w.heap.size #[.string k, .string v] 55 := by rw [hV]; exact Gr.Blk.new0
    clear hV
    refine (unhide NU1 _).mono ?_
    rintro e w1 ⟨rfl, hb1⟩
    have b1 := b0.trans (hb1.mono b0.size)
    have m1 := m0.below hb1
    have c1 : w1.cell? ⟨w.heap.size, 1, none⟩ = some (.string v) := m1.cell 1 _ rfl
    go_wp2
    go_ret
    exact ⟨rfl, b1⟩
  | some m =>
    have NU1 : Hid (∀ w1, Calls Tryz.prog 63 #[.string (k.extract 1 k.size)] w1 fun e w' => e = .returned (.tuple #[.int .i64 ((m : Nat) : Int), .bool true]) ∧ Below w1.heap.size w1 w') := NU
    have hm99 := unhide HNB m rfl
    clear NU HNB
    go_enter Tryz.func69, Tryz.ntmps69
    go_wp2_with fail
    obtain ⟨V, hV⟩ : ∃ W, W = (w.alloc (Obj.cells #[Value.string k, Value.string v] 55)) := ⟨_, rfl⟩
    rw [← hV]
    have b0 : Below w.heap.size w V := by rw [hV]; exact Gr.below_new _ _
    have m0 : Blk V w.heap.size #[.string k, .string v] 55 := by rw [hV]; exact Gr.Blk.new0
    clear hV
    refine (unhide NU1 _).mono ?_
    rintro e w1 ⟨rfl, hb1⟩
    have b1 := b0.trans (hb1.mono b0.size)
    have m1 := m0.below hb1
    have c1 : w1.cell? ⟨w.heap.size, 1, none⟩ = some (.string v) := m1.cell 1 _ rfl
    go_wp2
    go_ret
    exact ⟨rfl, b1⟩
set_option maxRecDepth 100000 in
set_option maxHeartbeats 4000000 in
theorem key_r (a : Option Addr) (len cap B : Nat) (Q : PL) (n : Nat) (k v : ByteArray) (_hn : n ≤ 1000000) (_hlen : len ≤ 1048576) (_hk8 : k.size ≤ 1000) (w : World) (_hB : B ≤ w.heap.size) (_hs : Tr.PairsAt w a len B Q) (h5 : k.size = 5) (hb : byteAt k 0 = 114) :
    Calls Tryz.prog 69 #[.slice a len cap, .agg #[.string k, .string v], .int .i64 (n : Int)] w fun e w' => e = .returned (.bool (rOk n (numP (k.extract 1 3)) (numP (k.extract 3 k.size)))) ∧ Below w.heap.size w w' := by
  have l0 : 0 < k.size := by omega
  have e0 := byteAt_eq l0
  have kz : (k.size : Int) ≤ 1000 := by omega
  have ki : (0 : Int) < (k.size : Int) := by omega
  have hsz : ((k.size : Int) == 5) = true := by rw [h5]; rfl
  have hs3 : ((k.size : Int) == 3) = false := by rw [h5]; rfl
  have ki1 : (3 : Int) ≤ (k.size : Int) := by omega
  rw [e0] at hb
  have hbyte : (((k[0]'l0).toNat : Int) == 114) = true := by rw [hb]; rfl
  have hno101 : (((k[0]'l0).toNat : Int) == 101) = false := by rw [hb]; rfl
  clear e0 hb h5
  have NU := hide (fun w1 => num_any (k.extract 1 3) w1)
  have NW := hide (fun w1 => num_any (k.extract 3 k.size) w1)
  have HNB := hide (fun m h => numP_le (t := k.extract 1 3) (n := m) h)
  have HNC := hide (fun m h => numP_le (t := k.extract 3 k.size) (n := m) h)
  generalize numP (k.extract 1 3) = oa at NU HNB ⊢
  generalize numP (k.extract 3 k.size) = ob at NW HNC ⊢
  cases oa with
  | none =>
    have NU1 : Hid (∀ w1, Calls Tryz.prog 63 #[.string (k.extract 1 3)] w1 fun e w' => e = .returned (.tuple #[.int .i64 0, .bool false]) ∧ Below w1.heap.size w1 w') := NU
    cases ob with
    | none =>
      have NW1 : Hid (∀ w1, Calls Tryz.prog 63 #[.string (k.extract 3 k.size)] w1 fun e w' => e = .returned (.tuple #[.int .i64 0, .bool false]) ∧ Below w1.heap.size w1 w') := NW
      clear NU NW HNB HNC
      go_enter Tryz.func69, Tryz.ntmps69
      go_wp2_with fail
      obtain ⟨V, hV⟩ : ∃ W, W = (w.alloc (Obj.cells #[Value.string k, Value.string v] 55)) := ⟨_, rfl⟩
      rw [← hV]
      have b0 : Below w.heap.size w V := by rw [hV]; exact Gr.below_new _ _
      have m0 : Blk V w.heap.size #[.string k, .string v] 55 := by rw [hV]; exact Gr.Blk.new0
      clear hV
      refine (unhide NU1 _).mono ?_
      rintro e w1 ⟨rfl, hb1⟩
      have b1 := b0.trans (hb1.mono b0.size)
      have m1 := m0.below hb1
      have c1 : w1.cell? ⟨w.heap.size, 1, none⟩ = some (.string v) := m1.cell 1 _ rfl
      go_wp2_with fail
      refine (unhide NW1 _).mono ?_
      rintro e w2 ⟨rfl, hb2⟩
      have b2 := b1.trans (hb2.mono b1.size)
      have m2 := m1.below hb2
      have c2 : w2.cell? ⟨w.heap.size, 1, none⟩ = some (.string v) := m2.cell 1 _ rfl
      go_wp2
      go_ret
      exact ⟨rfl, b2⟩
    | some y =>
      have NW1 : Hid (∀ w1, Calls Tryz.prog 63 #[.string (k.extract 3 k.size)] w1 fun e w' => e = .returned (.tuple #[.int .i64 ((y : Nat) : Int), .bool true]) ∧ Below w1.heap.size w1 w') := NW
      clear NU NW HNB HNC
      go_enter Tryz.func69, Tryz.ntmps69
      go_wp2_with fail
      obtain ⟨V, hV⟩ : ∃ W, W = (w.alloc (Obj.cells #[Value.string k, Value.string v] 55)) := ⟨_, rfl⟩
      rw [← hV]
      have b0 : Below w.heap.size w V := by rw [hV]; exact Gr.below_new _ _
      have m0 : Blk V w.heap.size #[.string k, .string v] 55 := by rw [hV]; exact Gr.Blk.new0
      clear hV
      refine (unhide NU1 _).mono ?_
      rintro e w1 ⟨rfl, hb1⟩
      have b1 := b0.trans (hb1.mono b0.size)
      have m1 := m0.below hb1
      have c1 : w1.cell? ⟨w.heap.size, 1, none⟩ = some (.string v) := m1.cell 1 _ rfl
      go_wp2_with fail
      refine (unhide NW1 _).mono ?_
      rintro e w2 ⟨rfl, hb2⟩
      have b2 := b1.trans (hb2.mono b1.size)
      have m2 := m1.below hb2
      have c2 : w2.cell? ⟨w.heap.size, 1, none⟩ = some (.string v) := m2.cell 1 _ rfl
      go_wp2
      go_ret
      exact ⟨rfl, b2⟩
  | some x =>
    have NU1 : Hid (∀ w1, Calls Tryz.prog 63 #[.string (k.extract 1 3)] w1 fun e w' => e = .returned (.tuple #[.int .i64 ((x : Nat) : Int), .bool true]) ∧ Below w1.heap.size w1 w') := NU
    have hx99 := unhide HNB x rfl
    cases ob with
    | none =>
      have NW1 : Hid (∀ w1, Calls Tryz.prog 63 #[.string (k.extract 3 k.size)] w1 fun e w' => e = .returned (.tuple #[.int .i64 0, .bool false]) ∧ Below w1.heap.size w1 w') := NW
      clear NU NW HNB HNC
      go_enter Tryz.func69, Tryz.ntmps69
      go_wp2_with fail
      obtain ⟨V, hV⟩ : ∃ W, W = (w.alloc (Obj.cells #[Value.string k, Value.string v] 55)) := ⟨_, rfl⟩
      rw [← hV]
      have b0 : Below w.heap.size w V := by rw [hV]; exact Gr.below_new _ _
      have m0 : Blk V w.heap.size #[.string k, .string v] 55 := by rw [hV]; exact Gr.Blk.new0
      clear hV
      refine (unhide NU1 _).mono ?_
      rintro e w1 ⟨rfl, hb1⟩
      have b1 := b0.trans (hb1.mono b0.size)
      have m1 := m0.below hb1
      have c1 : w1.cell? ⟨w.heap.size, 1, none⟩ = some (.string v) := m1.cell 1 _ rfl
      go_wp2_with fail
      refine (unhide NW1 _).mono ?_
      rintro e w2 ⟨rfl, hb2⟩
      have b2 := b1.trans (hb2.mono b1.size)
      have m2 := m1.below hb2
      have c2 : w2.cell? ⟨w.heap.size, 1, none⟩ = some (.string v) := m2.cell 1 _ rfl
      go_wp2
      go_ret
      exact ⟨rfl, b2⟩
    | some y =>
      have NW1 : Hid (∀ w1, Calls Tryz.prog 63 #[.string (k.extract 3 k.size)] w1 fun e w' => e = .returned (.tuple #[.int .i64 ((y : Nat) : Int), .bool true]) ∧ Below w1.heap.size w1 w') := NW
      clear NU NW HNB HNC
      go_enter Tryz.func69, Tryz.ntmps69
      go_wp2_with fail
      obtain ⟨V, hV⟩ : ∃ W, W = (w.alloc (Obj.cells #[Value.string k, Value.string v] 55)) := ⟨_, rfl⟩
      rw [← hV]
      have b0 : Below w.heap.size w V := by rw [hV]; exact Gr.below_new _ _
      have m0 : Blk V w.heap.size #[.string k, .string v] 55 := by rw [hV]; exact Gr.Blk.new0
      clear hV
      refine (unhide NU1 _).mono ?_
      rintro e w1 ⟨rfl, hb1⟩
      have b1 := b0.trans (hb1.mono b0.size)
      have m1 := m0.below hb1
      have c1 : w1.cell? ⟨w.heap.size, 1, none⟩ = some (.string v) := m1.cell 1 _ rfl
      go_wp2_with fail
      refine (unhide NW1 _).mono ?_
      rintro e w2 ⟨rfl, hb2⟩
      have b2 := b1.trans (hb2.mono b1.size)
      have m2 := m1.below hb2
      have c2 : w2.cell? ⟨w.heap.size, 1, none⟩ = some (.string v) := m2.cell 1 _ rfl
      go_wp2
      go_ret
      exact ⟨rfl, b2⟩
set_option maxRecDepth 100000 in
set_option maxHeartbeats 4000000 in
theorem key_e (a : Option Addr) (len cap B : Nat) (Q : PL) (n : Nat) (k v : ByteArray) (_hn : n ≤ 1000000) (hlen : len ≤ 1048576) (_hk8 : k.size ≤ 1000) (w : World) (hB : B ≤ w.heap.size) (hs : Tr.PairsAt w a len B Q) (h5 : k.size = 5) (hb : byteAt k 0 = 101) :
    Calls Tryz.prog 69 #[.slice a len cap, .agg #[.string k, .string v], .int .i64 (n : Int)] w fun e w' => e = .returned (.bool (eOk (getP Q (ByteArray.mk #[118] ++ k.extract 1 3)).isSome (getP Q (ByteArray.mk #[118] ++ k.extract 3 k.size)).isSome (numP (k.extract 1 3)) (numP (k.extract 3 k.size)) v)) ∧ Below w.heap.size w w' := by
  have HG := hide (fun k w1 (hb : Below w.heap.size w w1) => get_any a len cap B Q k (by omega) w1 (hs.below hb hB))
  clear hs
  have z1 : (k.extract 1 3).size ≤ 1000 := by rw [ByteArray.size_extract]; omega
  have z2 : (k.extract 3 k.size).size ≤ 1000 := by rw [ByteArray.size_extract]; omega
  have y1 : ¬ 9223372036854775807 < (ByteArray.mk #[118]).size + (k.extract 1 3).size := by have : (ByteArray.mk #[118]).size = 1 := rfl; omega
  have y2 : ¬ 9223372036854775807 < (ByteArray.mk #[118]).size + (k.extract 3 k.size).size := by have : (ByteArray.mk #[118]).size = 1 := rfl; omega
  have l0 : 0 < k.size := by omega
  have e0 := byteAt_eq l0
  have kz : (k.size : Int) ≤ 1000 := by omega
  have ki : (0 : Int) < (k.size : Int) := by omega
  have hsz : ((k.size : Int) == 5) = true := by rw [h5]; rfl
  have hs3 : ((k.size : Int) == 3) = false := by rw [h5]; rfl
  have ki1 : (3 : Int) ≤ (k.size : Int) := by omega
  rw [e0] at hb
  have hbyte : (((k[0]'l0).toNat : Int) == 101) = true := by rw [hb]; rfl
  clear e0 hb h5
  have NU := hide (fun w1 => num_any (k.extract 1 3) w1)
  have NW := hide (fun w1 => num_any (k.extract 3 k.size) w1)
  have HNB := hide (fun m h => numP_le (t := k.extract 1 3) (n := m) h)
  have HNC := hide (fun m h => numP_le (t := k.extract 3 k.size) (n := m) h)
  generalize numP (k.extract 1 3) = oa at NU HNB ⊢
  generalize numP (k.extract 3 k.size) = ob at NW HNC ⊢
  have G1 := hide (fun w1 hb => unhide HG (ByteArray.mk #[118] ++ k.extract 1 3) w1 hb)
  have G2 := hide (fun w1 hb => unhide HG (ByteArray.mk #[118] ++ k.extract 3 k.size) w1 hb)
  generalize (getP Q (ByteArray.mk #[118] ++ k.extract 1 3)).isSome = g1 at G1 ⊢
  generalize (getP Q (ByteArray.mk #[118] ++ k.extract 3 k.size)).isSome = g2 at G2 ⊢
  generalize oT (getP Q (ByteArray.mk #[118] ++ k.extract 1 3)) = t1 at G1
  generalize oT (getP Q (ByteArray.mk #[118] ++ k.extract 3 k.size)) = t2 at G2
  clear HG
  cases oa with
  | none =>
    have NU1 : Hid (∀ w1, Calls Tryz.prog 63 #[.string (k.extract 1 3)] w1 fun e w' => e = .returned (.tuple #[.int .i64 0, .bool false]) ∧ Below w1.heap.size w1 w') := NU
    cases ob with
    | none =>
      have NW1 : Hid (∀ w1, Calls Tryz.prog 63 #[.string (k.extract 3 k.size)] w1 fun e w' => e = .returned (.tuple #[.int .i64 0, .bool false]) ∧ Below w1.heap.size w1 w') := NW
      clear NU NW HNB HNC
      go_enter Tryz.func69, Tryz.ntmps69
      go_wp2_with fail
      obtain ⟨V, hV⟩ : ∃ W, W = (w.alloc (Obj.cells #[Value.string k, Value.string v] 55)) := ⟨_, rfl⟩
      rw [← hV]
      have b0 : Below w.heap.size w V := by rw [hV]; exact Gr.below_new _ _
      have m0 : Blk V w.heap.size #[.string k, .string v] 55 := by rw [hV]; exact Gr.Blk.new0
      clear hV
      refine (unhide NU1 _).mono ?_
      rintro e w1 ⟨rfl, hb1⟩
      have b1 := b0.trans (hb1.mono b0.size)
      have m1 := m0.below hb1
      have c1 : w1.cell? ⟨w.heap.size, 1, none⟩ = some (.string v) := m1.cell 1 _ rfl
      go_wp2_with fail
      refine (unhide NW1 _).mono ?_
      rintro e w2 ⟨rfl, hb2⟩
      have b2 := b1.trans (hb2.mono b1.size)
      have m2 := m1.below hb2
      have c2 : w2.cell? ⟨w.heap.size, 1, none⟩ = some (.string v) := m2.cell 1 _ rfl
      go_wp2
      go_ret
      exact ⟨rfl, b2⟩
    | some y =>
      have NW1 : Hid (∀ w1, Calls Tryz.prog 63 #[.string (k.extract 3 k.size)] w1 fun e w' => e = .returned (.tuple #[.int .i64 ((y : Nat) : Int), .bool true]) ∧ Below w1.heap.size w1 w') := NW
      have hy99 := unhide HNC y rfl
      clear NU NW HNB HNC
      go_enter Tryz.func69, Tryz.ntmps69
      go_wp2_with fail
      obtain ⟨V, hV⟩ : ∃ W, W = (w.alloc (Obj.cells #[Value.string k, Value.string v] 55)) := ⟨_, rfl⟩
      rw [← hV]
      have b0 : Below w.heap.size w V := by rw [hV]; exact Gr.below_new _ _
      have m0 : Blk V w.heap.size #[.string k, .string v] 55 := by rw [hV]; exact Gr.Blk.new0
      clear hV
      refine (unhide NU1 _).mono ?_
      rintro e w1 ⟨rfl, hb1⟩
      have b1 := b0.trans (hb1.mono b0.size)
      have m1 := m0.below hb1
      have c1 : w1.cell? ⟨w.heap.size, 1, none⟩ = some (.string v) := m1.cell 1 _ rfl
      go_wp2_with fail
      refine (unhide NW1 _).mono ?_
      rintro e w2 ⟨rfl, hb2⟩
      have b2 := b1.trans (hb2.mono b1.size)
      have m2 := m1.below hb2
      have c2 : w2.cell? ⟨w.heap.size, 1, none⟩ = some (.string v) := m2.cell 1 _ rfl
      go_wp2
      go_ret
      exact ⟨rfl, b2⟩
  | some x =>
    have NU1 : Hid (∀ w1, Calls Tryz.prog 63 #[.string (k.extract 1 3)] w1 fun e w' => e = .returned (.tuple #[.int .i64 ((x : Nat) : Int), .bool true]) ∧ Below w1.heap.size w1 w') := NU
    have hx99 := unhide HNB x rfl
    cases ob with
    | none =>
      have NW1 : Hid (∀ w1, Calls Tryz.prog 63 #[.string (k.extract 3 k.size)] w1 fun e w' => e = .returned (.tuple #[.int .i64 0, .bool false]) ∧ Below w1.heap.size w1 w') := NW
      clear NU NW HNB HNC
      go_enter Tryz.func69, Tryz.ntmps69
      go_wp2_with fail
      obtain ⟨V, hV⟩ : ∃ W, W = (w.alloc (Obj.cells #[Value.string k, Value.string v] 55)) := ⟨_, rfl⟩
      rw [← hV]
      have b0 : Below w.heap.size w V := by rw [hV]; exact Gr.below_new _ _
      have m0 : Blk V w.heap.size #[.string k, .string v] 55 := by rw [hV]; exact Gr.Blk.new0
      clear hV
      refine (unhide NU1 _).mono ?_
      rintro e w1 ⟨rfl, hb1⟩
      have b1 := b0.trans (hb1.mono b0.size)
      have m1 := m0.below hb1
      have c1 : w1.cell? ⟨w.heap.size, 1, none⟩ = some (.string v) := m1.cell 1 _ rfl
      go_wp2_with fail
      refine (unhide NW1 _).mono ?_
      rintro e w2 ⟨rfl, hb2⟩
      have b2 := b1.trans (hb2.mono b1.size)
      have m2 := m1.below hb2
      have c2 : w2.cell? ⟨w.heap.size, 1, none⟩ = some (.string v) := m2.cell 1 _ rfl
      go_wp2
      go_ret
      exact ⟨rfl, b2⟩
    | some y =>
      have NW1 : Hid (∀ w1, Calls Tryz.prog 63 #[.string (k.extract 3 k.size)] w1 fun e w' => e = .returned (.tuple #[.int .i64 ((y : Nat) : Int), .bool true]) ∧ Below w1.heap.size w1 w') := NW
      have hy99 := unhide HNC y rfl
      clear NU NW HNB HNC
      by_cases hyx : y ≤ x
      · have hX : eOk g1 g2 (some x) (some y) v = false := by simp only [eOk]; rw [if_pos hyx]
        rw [hX]
        have hm : (y : Int) ≤ (x : Int) := by omega
        clear hX hyx
        go_enter Tryz.func69, Tryz.ntmps69
        go_wp2_with fail
        obtain ⟨V, hV⟩ : ∃ W, W = (w.alloc (Obj.cells #[Value.string k, Value.string v] 55)) := ⟨_, rfl⟩
        rw [← hV]
        have b0 : Below w.heap.size w V := by rw [hV]; exact Gr.below_new _ _
        have m0 : Blk V w.heap.size #[.string k, .string v] 55 := by rw [hV]; exact Gr.Blk.new0
        clear hV
        refine (unhide NU1 _).mono ?_
        rintro e w1 ⟨rfl, hb1⟩
        have b1 := b0.trans (hb1.mono b0.size)
        have m1 := m0.below hb1
        have c1 : w1.cell? ⟨w.heap.size, 1, none⟩ = some (.string v) := m1.cell 1 _ rfl
        go_wp2_with fail
        refine (unhide NW1 _).mono ?_
        rintro e w2 ⟨rfl, hb2⟩
        have b2 := b1.trans (hb2.mono b1.size)
        have m2 := m1.below hb2
        have c2 : w2.cell? ⟨w.heap.size, 1, none⟩ = some (.string v) := m2.cell 1 _ rfl
        go_wp2
        go_ret
        exact ⟨rfl, b2⟩
      · have hm : ¬ (y : Int) ≤ (x : Int) := by omega
        by_cases hv3 : v.size = 3
        · have hX : eOk g1 g2 (some x) (some y) v = (g1 && (g2 && (decide (byteAt v 0 ≤ 50) && (decide (byteAt v 1 ≤ 50) && decide (byteAt v 2 ≤ 50))))) := by simp only [eOk]; rw [if_neg hyx, if_neg (by omega)]
          rw [hX]
          have v0 : 0 < v.size := by omega
          have v1 : 1 < v.size := by omega
          have v2 : 2 < v.size := by omega
          rw [byteAt_eq v0, byteAt_eq v1, byteAt_eq v2]
          have hvb : ((v.size : Int) != 3) = false := by rw [hv3]; rfl
          have i0 : (0 : Int) < (v.size : Int) := by omega
          have i1 : (1 : Int) < (v.size : Int) := by omega
          have i2 : (2 : Int) < (v.size : Int) := by omega
          have u0 : ((v[0]'v0).toNat : Int) ≤ 255 := by have := UInt8.toNat_lt (v[0]'v0); omega
          have u1 : ((v[1]'v1).toNat : Int) ≤ 255 := by have := UInt8.toNat_lt (v[1]'v1); omega
          have u2 : ((v[2]'v2).toNat : Int) ≤ 255 := by have := UInt8.toNat_lt (v[2]'v2); omega
          clear hX hyx hv3
          cases g1
          · rw [Bool.false_and]
            go_enter Tryz.func69, Tryz.ntmps69
            go_wp2_with fail
            obtain ⟨V, hV⟩ : ∃ W, W = (w.alloc (Obj.cells #[Value.string k, Value.string v] 55)) := ⟨_, rfl⟩
            rw [← hV]
            have b0 : Below w.heap.size w V := by rw [hV]; exact Gr.below_new _ _
            have m0 : Blk V w.heap.size #[.string k, .string v] 55 := by rw [hV]; exact Gr.Blk.new0
            clear hV
            refine (unhide NU1 _).mono ?_
            rintro e w1 ⟨rfl, hb1⟩
            have b1 := b0.trans (hb1.mono b0.size)
            have m1 := m0.below hb1
            have c1 : w1.cell? ⟨w.heap.size, 1, none⟩ = some (.string v) := m1.cell 1 _ rfl
            go_wp2_with fail
            refine (unhide NW1 _).mono ?_
            rintro e w2 ⟨rfl, hb2⟩
            have b2 := b1.trans (hb2.mono b1.size)
            have m2 := m1.below hb2
            have c2 : w2.cell? ⟨w.heap.size, 1, none⟩ = some (.string v) := m2.cell 1 _ rfl
            go_wp2_with fail
            refine (unhide G1 _ b2).mono ?_
            rintro e w3 ⟨rfl, rfl⟩
            have b3 := b2
            have m3 := m2
            go_wp2_with fail
            refine (unhide G2 _ b3).mono ?_
            rintro e w4 ⟨rfl, rfl⟩
            have b4 := b3
            have m4 := m3
            have c4 : w4.cell? ⟨w.heap.size, 1, none⟩ = some (.string v) := m4.cell 1 _ rfl
            go_wp2
            go_ret
            exact ⟨rfl, b4⟩
          · rw [Bool.true_and]
            cases g2
            · rw [Bool.false_and]
              go_enter Tryz.func69, Tryz.ntmps69
              go_wp2_with fail
              obtain ⟨V, hV⟩ : ∃ W, W = (w.alloc (Obj.cells #[Value.string k, Value.string v] 55)) := ⟨_, rfl⟩
              rw [← hV]
              have b0 : Below w.heap.size w V := by rw [hV]; exact Gr.below_new _ _
              have m0 : Blk V w.heap.size #[.string k, .string v] 55 := by rw [hV]; exact Gr.Blk.new0
              clear hV
              refine (unhide NU1 _).mono ?_
              rintro e w1 ⟨rfl, hb1⟩
              have b1 := b0.trans (hb1.mono b0.size)
              have m1 := m0.below hb1
              have c1 : w1.cell? ⟨w.heap.size, 1, none⟩ = some (.string v) := m1.cell 1 _ rfl
              go_wp2_with fail
              refine (unhide NW1 _).mono ?_
              rintro e w2 ⟨rfl, hb2⟩
              have b2 := b1.trans (hb2.mono b1.size)
              have m2 := m1.below hb2
              have c2 : w2.cell? ⟨w.heap.size, 1, none⟩ = some (.string v) := m2.cell 1 _ rfl
              go_wp2_with fail
              refine (unhide G1 _ b2).mono ?_
              rintro e w3 ⟨rfl, rfl⟩
              have b3 := b2
              have m3 := m2
              go_wp2_with fail
              refine (unhide G2 _ b3).mono ?_
              rintro e w4 ⟨rfl, rfl⟩
              have b4 := b3
              have m4 := m3
              have c4 : w4.cell? ⟨w.heap.size, 1, none⟩ = some (.string v) := m4.cell 1 _ rfl
              go_wp2
              go_ret
              exact ⟨rfl, b4⟩
            · rw [Bool.true_and]
              by_cases q0 : (v[0]'v0).toNat ≤ 50
              · have p0 : ((v[0]'v0).toNat : Int) ≤ 50 := by omega
                rw [decide_eq_true q0, Bool.true_and]
                by_cases q1 : (v[1]'v1).toNat ≤ 50
                · have p1 : ((v[1]'v1).toNat : Int) ≤ 50 := by omega
                  rw [decide_eq_true q1, Bool.true_and]
                  by_cases q2 : (v[2]'v2).toNat ≤ 50
                  · have p2 : ((v[2]'v2).toNat : Int) ≤ 50 := by omega
                    rw [decide_eq_true q2]
                    clear q0 q1 q2
                    go_enter Tryz.func69, Tryz.ntmps69
                    go_wp2_with fail
                    obtain ⟨V, hV⟩ : ∃ W, W = (w.alloc (Obj.cells #[Value.string k, Value.string v] 55)) := ⟨_, rfl⟩
                    rw [← hV]
                    have b0 : Below w.heap.size w V := by rw [hV]; exact Gr.below_new _ _
                    have m0 : Blk V w.heap.size #[.string k, .string v] 55 := by rw [hV]; exact Gr.Blk.new0
                    clear hV
                    refine (unhide NU1 _).mono ?_
                    rintro e w1 ⟨rfl, hb1⟩
                    have b1 := b0.trans (hb1.mono b0.size)
                    have m1 := m0.below hb1
                    have c1 : w1.cell? ⟨w.heap.size, 1, none⟩ = some (.string v) := m1.cell 1 _ rfl
                    go_wp2_with fail
                    refine (unhide NW1 _).mono ?_
                    rintro e w2 ⟨rfl, hb2⟩
                    have b2 := b1.trans (hb2.mono b1.size)
                    have m2 := m1.below hb2
                    have c2 : w2.cell? ⟨w.heap.size, 1, none⟩ = some (.string v) := m2.cell 1 _ rfl
                    go_wp2_with fail
                    refine (unhide G1 _ b2).mono ?_
                    rintro e w3 ⟨rfl, rfl⟩
                    have b3 := b2
                    have m3 := m2
                    go_wp2_with fail
                    refine (unhide G2 _ b3).mono ?_
                    rintro e w4 ⟨rfl, rfl⟩
                    have b4 := b3
                    have m4 := m3
                    have c4 : w4.cell? ⟨w.heap.size, 1, none⟩ = some (.string v) := m4.cell 1 _ rfl
                    go_wp2
                    go_ret
                    exact ⟨rfl, b4⟩
                  · have p2 : ¬ ((v[2]'v2).toNat : Int) ≤ 50 := by omega
                    have hd := decide_eq_false p2
                    rw [decide_eq_false q2]
                    clear q0 q1 q2
                    go_enter Tryz.func69, Tryz.ntmps69
                    go_wp2_with fail
                    obtain ⟨V, hV⟩ : ∃ W, W = (w.alloc (Obj.cells #[Value.string k, Value.string v] 55)) := ⟨_, rfl⟩
                    rw [← hV]
                    have b0 : Below w.heap.size w V := by rw [hV]; exact Gr.below_new _ _
                    have m0 : Blk V w.heap.size #[.string k, .string v] 55 := by rw [hV]; exact Gr.Blk.new0
                    clear hV
                    refine (unhide NU1 _).mono ?_
                    rintro e w1 ⟨rfl, hb1⟩
                    have b1 := b0.trans (hb1.mono b0.size)
                    have m1 := m0.below hb1
                    have c1 : w1.cell? ⟨w.heap.size, 1, none⟩ = some (.string v) := m1.cell 1 _ rfl
                    go_wp2_with fail
                    refine (unhide NW1 _).mono ?_
                    rintro e w2 ⟨rfl, hb2⟩
                    have b2 := b1.trans (hb2.mono b1.size)
                    have m2 := m1.below hb2
                    have c2 : w2.cell? ⟨w.heap.size, 1, none⟩ = some (.string v) := m2.cell 1 _ rfl
                    go_wp2_with fail
                    refine (unhide G1 _ b2).mono ?_
                    rintro e w3 ⟨rfl, rfl⟩
                    have b3 := b2
                    have m3 := m2
                    go_wp2_with fail
                    refine (unhide G2 _ b3).mono ?_
                    rintro e w4 ⟨rfl, rfl⟩
                    have b4 := b3
                    have m4 := m3
                    have c4 : w4.cell? ⟨w.heap.size, 1, none⟩ = some (.string v) := m4.cell 1 _ rfl
                    go_wp2
                    go_ret
                    exact ⟨(by first | rfl | (rw [hd]; rfl)), b4⟩
                · have p1 : ¬ ((v[1]'v1).toNat : Int) ≤ 50 := by omega
                  have hd := decide_eq_false p1
                  rw [decide_eq_false q1, Bool.false_and]
                  clear q0 q1
                  go_enter Tryz.func69, Tryz.ntmps69
                  go_wp2_with fail
                  obtain ⟨V, hV⟩ : ∃ W, W = (w.alloc (Obj.cells #[Value.string k, Value.string v] 55)) := ⟨_, rfl⟩
                  rw [← hV]
                  have b0 : Below w.heap.size w V := by rw [hV]; exact Gr.below_new _ _
                  have m0 : Blk V w.heap.size #[.string k, .string v] 55 := by rw [hV]; exact Gr.Blk.new0
                  clear hV
                  refine (unhide NU1 _).mono ?_
                  rintro e w1 ⟨rfl, hb1⟩
                  have b1 := b0.trans (hb1.mono b0.size)
                  have m1 := m0.below hb1
                  have c1 : w1.cell? ⟨w.heap.size, 1, none⟩ = some (.string v) := m1.cell 1 _ rfl
                  go_wp2_with fail
                  refine (unhide NW1 _).mono ?_
                  rintro e w2 ⟨rfl, hb2⟩
                  have b2 := b1.trans (hb2.mono b1.size)
                  have m2 := m1.below hb2
                  have c2 : w2.cell? ⟨w.heap.size, 1, none⟩ = some (.string v) := m2.cell 1 _ rfl
                  go_wp2_with fail
                  refine (unhide G1 _ b2).mono ?_
                  rintro e w3 ⟨rfl, rfl⟩
                  have b3 := b2
                  have m3 := m2
                  go_wp2_with fail
                  refine (unhide G2 _ b3).mono ?_
                  rintro e w4 ⟨rfl, rfl⟩
                  have b4 := b3
                  have m4 := m3
                  have c4 : w4.cell? ⟨w.heap.size, 1, none⟩ = some (.string v) := m4.cell 1 _ rfl
                  go_wp2
                  go_ret
                  exact ⟨(by first | rfl | (rw [hd]; rfl)), b4⟩
              · have p0 : ¬ ((v[0]'v0).toNat : Int) ≤ 50 := by omega
                have hd := decide_eq_false p0
                rw [decide_eq_false q0, Bool.false_and]
                clear q0
                go_enter Tryz.func69, Tryz.ntmps69
                go_wp2_with fail
                obtain ⟨V, hV⟩ : ∃ W, W = (w.alloc (Obj.cells #[Value.string k, Value.string v] 55)) := ⟨_, rfl⟩
                rw [← hV]
                have b0 : Below w.heap.size w V := by rw [hV]; exact Gr.below_new _ _
                have m0 : Blk V w.heap.size #[.string k, .string v] 55 := by rw [hV]; exact Gr.Blk.new0
                clear hV
                refine (unhide NU1 _).mono ?_
                rintro e w1 ⟨rfl, hb1⟩
                have b1 := b0.trans (hb1.mono b0.size)
                have m1 := m0.below hb1
                have c1 : w1.cell? ⟨w.heap.size, 1, none⟩ = some (.string v) := m1.cell 1 _ rfl
                go_wp2_with fail
                refine (unhide NW1 _).mono ?_
                rintro e w2 ⟨rfl, hb2⟩
                have b2 := b1.trans (hb2.mono b1.size)
                have m2 := m1.below hb2
                have c2 : w2.cell? ⟨w.heap.size, 1, none⟩ = some (.string v) := m2.cell 1 _ rfl
                go_wp2_with fail
                refine (unhide G1 _ b2).mono ?_
                rintro e w3 ⟨rfl, rfl⟩
                have b3 := b2
                have m3 := m2
                go_wp2_with fail
                refine (unhide G2 _ b3).mono ?_
                rintro e w4 ⟨rfl, rfl⟩
                have b4 := b3
                have m4 := m3
                have c4 : w4.cell? ⟨w.heap.size, 1, none⟩ = some (.string v) := m4.cell 1 _ rfl
                go_wp2
                go_ret
                exact ⟨(by first | rfl | (rw [hd]; rfl)), b4⟩
        · have hX : eOk g1 g2 (some x) (some y) v = false := by simp only [eOk]; rw [if_neg hyx, if_pos hv3]
          rw [hX]
          have hvb : ((v.size : Int) != 3) = true := by rw [bne_iff_ne]; omega
          clear hX hyx hv3
          go_enter Tryz.func69, Tryz.ntmps69
          go_wp2_with fail
          obtain ⟨V, hV⟩ : ∃ W, W = (w.alloc (Obj.cells #[Value.string k, Value.string v] 55)) := ⟨_, rfl⟩
          rw [← hV]
          have b0 : Below w.heap.size w V := by rw [hV]; exact Gr.below_new _ _
          have m0 : Blk V w.heap.size #[.string k, .string v] 55 := by rw [hV]; exact Gr.Blk.new0
          clear hV
          refine (unhide NU1 _).mono ?_
          rintro e w1 ⟨rfl, hb1⟩
          have b1 := b0.trans (hb1.mono b0.size)
          have m1 := m0.below hb1
          have c1 : w1.cell? ⟨w.heap.size, 1, none⟩ = some (.string v) := m1.cell 1 _ rfl
          go_wp2_with fail
          refine (unhide NW1 _).mono ?_
          rintro e w2 ⟨rfl, hb2⟩
          have b2 := b1.trans (hb2.mono b1.size)
          have m2 := m1.below hb2
          have c2 : w2.cell? ⟨w.heap.size, 1, none⟩ = some (.string v) := m2.cell 1 _ rfl
          go_wp2
          go_ret
          exact ⟨rfl, b2⟩
set_option maxRecDepth 100000 in
set_option maxHeartbeats 4000000 in
theorem key_3 (a : Option Addr) (len cap B : Nat) (Q : PL) (n : Nat) (k v : ByteArray) (_hn : n ≤ 1000000) (_hlen : len ≤ 1048576) (_hk8 : k.size ≤ 1000) (w : World) (_hB : B ≤ w.heap.size) (_hs : Tr.PairsAt w a len B Q) (h3 : k.size = 3) (n1 : byteAt k 0 ≠ 118) (n2 : byteAt k 0 ≠ 113) :
    Calls Tryz.prog 69 #[.slice a len cap, .agg #[.string k, .string v], .int .i64 (n : Int)] w fun e w' => e = .returned (.bool (false)) ∧ Below w.heap.size w w' := by
  have l0 : 0 < k.size := by omega
  have e0 := byteAt_eq l0
  have kz : (k.size : Int) ≤ 1000 := by omega
  have ki : (0 : Int) < (k.size : Int) := by omega
  have hsz : ((k.size : Int) == 3) = true := by rw [h3]; rfl
  have hs5 : ((k.size : Int) == 5) = false := by rw [h3]; rfl
  rw [e0] at n1 n2
  have q1 : (((k[0]'l0).toNat : Int) == 118) = false := by rw [beq_eq_false_iff_ne]; omega
  have q2 : (((k[0]'l0).toNat : Int) == 113) = false := by rw [beq_eq_false_iff_ne]; omega
  clear e0 h3 n1 n2
  go_enter Tryz.func69, Tryz.ntmps69
  go_wp2
  go_ret
  exact ⟨rfl, Gr.below_new _ _⟩
set_option maxRecDepth 100000 in
set_option maxHeartbeats 4000000 in
theorem key_5 (a : Option Addr) (len cap B : Nat) (Q : PL) (n : Nat) (k v : ByteArray) (_hn : n ≤ 1000000) (_hlen : len ≤ 1048576) (_hk8 : k.size ≤ 1000) (w : World) (_hB : B ≤ w.heap.size) (_hs : Tr.PairsAt w a len B Q) (h5 : k.size = 5) (n1 : byteAt k 0 ≠ 101) (n2 : byteAt k 0 ≠ 114) :
    Calls Tryz.prog 69 #[.slice a len cap, .agg #[.string k, .string v], .int .i64 (n : Int)] w fun e w' => e = .returned (.bool (false)) ∧ Below w.heap.size w w' := by
  have l0 : 0 < k.size := by omega
  have e0 := byteAt_eq l0
  have kz : (k.size : Int) ≤ 1000 := by omega
  have ki : (0 : Int) < (k.size : Int) := by omega
  have hsz : ((k.size : Int) == 5) = true := by rw [h5]; rfl
  have hs3 : ((k.size : Int) == 3) = false := by rw [h5]; rfl
  rw [e0] at n1 n2
  have q1 : (((k[0]'l0).toNat : Int) == 101) = false := by rw [beq_eq_false_iff_ne]; omega
  have q2 : (((k[0]'l0).toNat : Int) == 114) = false := by rw [beq_eq_false_iff_ne]; omega
  clear e0 h5 n1 n2
  go_enter Tryz.func69, Tryz.ntmps69
  go_wp2
  go_ret
  exact ⟨rfl, Gr.below_new _ _⟩
set_option maxRecDepth 100000 in
set_option maxHeartbeats 4000000 in
theorem key_0 (a : Option Addr) (len cap B : Nat) (Q : PL) (n : Nat) (k v : ByteArray) (_hn : n ≤ 1000000) (_hlen : len ≤ 1048576) (hk8 : k.size ≤ 1000) (w : World) (_hB : B ≤ w.heap.size) (_hs : Tr.PairsAt w a len B Q) (h3 : k.size ≠ 3) (h5 : k.size ≠ 5) :
    Calls Tryz.prog 69 #[.slice a len cap, .agg #[.string k, .string v], .int .i64 (n : Int)] w fun e w' => e = .returned (.bool (false)) ∧ Below w.heap.size w w' := by
  have hs3 : ((k.size : Int) == 3) = false := by rw [beq_eq_false_iff_ne]; omega
  have hs5 : ((k.size : Int) == 5) = false := by rw [beq_eq_false_iff_ne]; omega
  have kz : (k.size : Int) ≤ 1000 := by omega
  clear h3 h5 hk8
  go_enter Tryz.func69, Tryz.ntmps69
  go_wp2
  go_ret
  exact ⟨rfl, Gr.below_new _ _⟩
set_option maxRecDepth 100000 in
set_option maxHeartbeats 4000000 in
theorem key_any (a : Option Addr) (len cap B : Nat) (Q : PL) (n : Nat) (k v : ByteArray) (hn : n ≤ 1000000) (hlen : len ≤ 1048576) (hk8 : k.size ≤ 1000) (w : World) (hB : B ≤ w.heap.size) (hs : Tr.PairsAt w a len B Q)  :
    Calls Tryz.prog 69 #[.slice a len cap, .agg #[.string k, .string v], .int .i64 (n : Int)] w fun e w' => e = .returned (.bool (keyOk Q n k v)) ∧ Below w.heap.size w w' := by
  unfold keyOk
  by_cases h3 : k.size = 3
  · rw [if_pos h3]
    by_cases h1 : byteAt k 0 = 118
    · rw [if_pos h1]
      exact key_v a len cap B Q n k v hn hlen hk8 w hB hs h3 h1
    · rw [if_neg h1]
      by_cases h2 : byteAt k 0 = 113
      · rw [if_pos h2]
        exact key_q a len cap B Q n k v hn hlen hk8 w hB hs h3 h2
      · rw [if_neg h2]
        exact key_3 a len cap B Q n k v hn hlen hk8 w hB hs h3 h1 h2
  · rw [if_neg h3]
    by_cases h5 : k.size = 5
    · rw [if_pos h5]
      by_cases h1 : byteAt k 0 = 101
      · rw [if_pos h1]
        exact key_e a len cap B Q n k v hn hlen hk8 w hB hs h5 h1
      · rw [if_neg h1]
        by_cases h2 : byteAt k 0 = 114
        · rw [if_pos h2]
          exact key_r a len cap B Q n k v hn hlen hk8 w hB hs h5 h2
        · rw [if_neg h2]
          exact key_5 a len cap B Q n k v hn hlen hk8 w hB hs h5 h1 h2
    · rw [if_neg h5]
      exact key_0 a len cap B Q n k v hn hlen hk8 w hB hs h3 h5
end Rg
end Go.Proofs.YtihnaddfpmjpaaaGreatDoor
namespace Go.Proofs.YtihnaddfpmjpaaaGreatDoor
namespace Rg
open Go.RowKit
/-- A register: what became of each id, the links, the rounds (pool and parts). -/
structure Rgs where
  mem : Nat → Nat × Nat
  lnk : Nat → Nat → Option (Nat × Nat × Nat)
  rds : List (List Int × List ByteArray)
def R0 : Rgs := ⟨fun _ => (0, 0), fun _ _ => none, []⟩
def numsF (k : ByteArray) : Nat → Nat → Option (List Nat)
  | 0, _ => some []
  | f + 1, i => match numP (k.extract i (i + 2)) with | none => none | some n => (numsF k f (i + 2)).map (n :: ·)
def numsK (k : ByteArray) : Option (List Nat) := if k.size % 2 = 0 then none else numsF k (k.size / 2) 1
def standV (v : ByteArray) : Option (Nat × Nat) :=
  if (v.toList == [97]) = true then some (1, 0) else if (v.toList == [108]) = true then some (2, 0) else if byteAt v 0 = 112 then (rdD (v.extract 1 v.size)).map (fun r => (3, r)) else none
def bytesI (v : ByteArray) : List Int := v.toList.map fun b => (b.toNat : Int)
def bytes3 (v : ByteArray) : Nat × Nat × Nat := (byteAt v 0, byteAt v 1, byteAt v 2)
def takeV (R : Rgs) (a : Nat) (v : ByteArray) : Option Rgs := if a < 12 then (match standV v with | none => none | some s => some { R with mem := fun i => if i = a then s else R.mem i }) else none
def takeE (R : Rgs) (a b : Nat) (v : ByteArray) : Option Rgs := if b < 12 ∧ a < b ∧ v.size = 3 then some { R with lnk := fun i j => if i = a ∧ j = b then some (bytes3 v) else R.lnk i j } else none
def takeQ (R : Rgs) (a : Nat) (v : ByteArray) : Option Rgs := if a = R.rds.length then some { R with rds := R.rds ++ [(bytesI v, [])] } else none
def takeR (R : Rgs) (a b : Nat) (v : ByteArray) : Option Rgs := match R.rds[a]? with | none => none | some x => if b = x.2.length then some { R with rds := R.rds.set a (x.1, x.2 ++ [v]) } else none
def take1 (R : Rgs) (c : Nat) (a : Nat) (v : ByteArray) : Option Rgs := if c = 113 then takeQ R a v else if c = 118 then takeV R a v else none
def take2 (R : Rgs) (c : Nat) (a b : Nat) (v : ByteArray) : Option Rgs := if c = 101 then takeE R a b v else if c = 114 then takeR R a b v else none
def takeP (R : Rgs) (k v : ByteArray) : Option Rgs := match numsK k with | none => none | some [a] => take1 R (byteAt k 0) a v | some [a, b] => take2 R (byteAt k 0) a b v | some _ => none
def regFold : Rgs → PL → Option Rgs
  | R, [] => some R
  | R, q :: L => match takeP R q.1 q.2 with | none => none | some R' => regFold R' L
def joinB (L : List ByteArray) : ByteArray := L.foldl (· ++ ·) ⟨#[]⟩
theorem joinB_snoc (L : List ByteArray) (v : ByteArray) : joinB (L ++ [v]) = joinB L ++ v := by unfold joinB; simp
end Rg
end Go.Proofs.YtihnaddfpmjpaaaGreatDoor
