/-
  PiecesOf: both contracts; rows of rows of numbers as a kind of values that the laws hand about.
-/
import Derived.Test.YtejfknkcakeakaaLkY
namespace Go.Proofs.Ytejfknkcakeakaa
namespace Lk
open Go.RowKit
open Gr (Blk Kept EdgeI GrAt GBox below_new InOwn InAt own_below own_lower intsV intsAt_of_own info3 graphOk specGraph_any implGraph_gen setMany setMany_all below_setCells marksN)

/-- Rows of rows, made by a call: its rows known. -/
def SsV (w : World) (B : Nat) (v : Value) (vs : List Value) (G : List (List Int)) : Prop := (∃ C, Grps w B C v vs G ∧ C ≤ w.heap.size) ∧ Dist vs
def SsOwn (w : World) (B : Nat) (v : Value) (G : List (List Int)) : Prop := ∃ vs, SsV w B v vs G
def SsAt (w : World) (v : Value) (_B : Nat) (G : List (List Int)) : Prop := ∃ B0 vs C, Grps w B0 C v vs G
def SsBlk (v : Value) (vs : List Value) (g : Nat) : Prop := v.ownBlock = some g ∨ ∃ j, ∃ h1 : j < vs.length, vs[j].ownBlock = some g

/-- Their size: the rows and what they hold. -/
def ssz (G : List (List Int)) : Nat := G.length + G.flatten.length

theorem SsAt.shape {w : World} {v : Value} {B : Nat} {G : List (List Int)} (h : SsAt w v B G) : ∃ a c, v = .slice a G.length c := by
  obtain ⟨_, _, _, h⟩ := h
  exact row_shape h.2.1

theorem SsV.at {w : World} {B : Nat} {v : Value} {vs : List Value} {G : List (List Int)} (h : SsV w B v vs G) : SsAt w v w.heap.size G := by
  obtain ⟨⟨C, h, _⟩, _⟩ := h
  exact ⟨_, _, _, h⟩

theorem SsV.below {w w' : World} {B : Nat} {v : Value} {vs : List Value} {G : List (List Int)} (h : SsV w B v vs G) (hb : Below w.heap.size w w') : SsV w' B v vs G := by
  obtain ⟨⟨C, h, hC⟩, hd⟩ := h
  exact ⟨⟨C, h.below hb, Nat.le_trans hC hb.size⟩, hd⟩

theorem SsV.blk {w : World} {B : Nat} {v : Value} {vs : List Value} {G : List (List Int)} (h : SsV w B v vs G) : ∀ g, SsBlk v vs g → B ≤ g ∧ g < w.heap.size := fun g hg => by
  obtain ⟨⟨C, h, _⟩, _⟩ := h
  rcases hg with hg | ⟨j, h1, hg⟩
  · exact h.blk.1 g hg
  · exact h.blk.2 j h1 g hg

theorem SsV.kept {S : Nat → Prop} {w w' : World} {B : Nat} {v : Value} {vs : List Value} {G : List (List Int)} (h : SsV w B v vs G) (hk : Kept S w w') (hS : ∀ g, SsBlk v vs g → ¬ S g) : SsV w' B v vs G := by
  obtain ⟨⟨C, h, hC⟩, hd⟩ := h
  exact ⟨⟨C, h.kept hk (fun g hg => hS g (.inl hg)) (fun j h1 g hg => hS g (.inr ⟨j, h1, hg⟩)), Nat.le_trans hC hk.2.2.2.1⟩, hd⟩

theorem eqSS_gen (v u : Value) (B B' : Nat) (G : List (List Int)) (h1 : ssz G ≤ 1048576) (w : World) (_hB : B ≤ w.heap.size) (_hB' : B' ≤ w.heap.size) (hv : SsAt w v B G) (hu : SsAt w u B' G) :
    Calls Try.prog 22 #[v, u] w fun e w' => e = .returned (.bool true) ∧ Below w.heap.size w w' := by
  obtain ⟨B0, vs, C, hv⟩ := hv
  obtain ⟨B1, us, C1, hu⟩ := hu
  unfold ssz at h1
  refine eqGrps_same v u vs us B0 B1 C C1 G (by omega) (fun g hg => ?_) w hv hu
  have := (List.sublist_flatten_of_mem hg).length_le
  omega

/-- The marks. -/
def marksSS (k : Nat) (G : List (List Int)) : List (List Int) := mixG k G G.length

theorem marksSS_flat (k : Nat) (G : List (List Int)) : (marksSS k G).length = G.length := mixG_length k G G.length

theorem markSS_gen (v : Value) (vs : List Value) (B k : Nat) (G : List (List Int)) (h1 : k + ssz G ≤ 100000000) (h2 : ssz G ≤ 1048576) (w : World) (ho : SsV w B v vs G) :
    Calls Try.prog 23 #[v, .int .i64 (k : Int)] w fun e w' => e = .returned (.int .i64 ((k + G.flatten.length : Nat) : Int)) ∧ SsV w' B v vs (marksSS k G) ∧ Kept (SsBlk v vs) w w' := by
  obtain ⟨⟨C, h, hC⟩, hd⟩ := ho
  unfold ssz at h1 h2
  refine (markGrps_any v vs B C k G (by omega) (by omega) hd w h).mono ?_
  rintro e w' ⟨rfl, hg, hk⟩
  exact ⟨rfl, ⟨⟨C, hg, Nat.le_trans hC hk.2.2.2.1⟩, hd⟩, hk.weak (fun i hi => .inr hi)⟩

theorem heldSS_gen (v : Value) (B k : Nat) (G : List (List Int)) (h1 : k + ssz G ≤ 100000000) (h2 : ssz G ≤ 1048576) (w : World) (_hB : B ≤ w.heap.size) (hv : SsAt w v B (marksSS k G)) :
    Calls Try.prog 24 #[v, .int .i64 (k : Int)] w fun e w' => e = .returned (.int .i64 ((k + G.flatten.length : Nat) : Int)) ∧ Below w.heap.size w w' := by
  obtain ⟨B0, vs, C, hv⟩ := hv
  unfold ssz at h1 h2
  exact heldGrps_any v vs B0 C k G (by omega) (by omega) w hv

theorem pieces_len (s : Int) (Q : List EdgeI) (K : List Int) : ssz (piecesR s Q K) ≤ 1048576 := by
  unfold ssz piecesR
  split
  · rename_i h
    have h1 : (partsR s Q K).length ≤ 9 := by unfold partsR; have := prts_length (lnkF Q) (List.range' 0 9) (leftF s.toNat K); simpa using this
    have h2 : ∀ (L : List (Nat → Bool)), (L.map fun p => setTo p 9).flatten.length ≤ 9 * L.length := fun L => by
      induction L with
      | nil => simp
      | cons p r ih =>
        have := setTo_length p 9
        simp only [List.map_cons, List.flatten_cons, List.length_append, List.length_cons]
        omega
    have := h2 (partsR s Q K)
    rw [List.length_map]
    omega
  · simp

theorem ss_nil (w : World) (B : Nat) : SsOwn w B (.slice none 0 0) [] := ⟨[], ⟨w.heap.size, ⟨rfl, ⟨rfl, .inl ⟨rfl, rfl⟩⟩, fun j h => absurd h (by simp)⟩, Nat.le_refl _⟩, Dist.nil⟩

theorem ss_empty (w : World) : SsOwn (w.alloc (Obj.cells #[] 26)) w.heap.size (.slice (some ⟨w.heap.size, 0, none⟩) 0 0) [] :=
  ⟨[], ⟨(w.alloc (Obj.cells #[] 26)).heap.size, ⟨rfl, World.ownsRow_made (size := 1) w (e := 26) #[] 0 (Nat.le_refl _) (Nat.zero_le _) (show (#[] : Array Value).size = 0 * 1 from rfl), fun j h => absurd h (by simp)⟩, Nat.le_refl _⟩, Dist.nil⟩

theorem SsOwn.lower {w : World} {B C : Nat} {v : Value} {G : List (List Int)} (h : SsOwn w B v G) (hC : C ≤ B) : SsOwn w C v G := by
  obtain ⟨vs, ⟨D, h, hD⟩, hd⟩ := h
  exact ⟨vs, ⟨D, h.lower hC, hD⟩, hd⟩

theorem SsOwn.shape {w : World} {B : Nat} {v : Value} {G : List (List Int)} (h : SsOwn w B v G) : ∃ a c, v = .slice a G.length c := by
  obtain ⟨vs, ⟨D, h, hD⟩, hd⟩ := h
  exact row_shape h.2.1

set_option maxRecDepth 100000 in
set_option maxHeartbeats 4000000 in
theorem specPieces_gen (B : Nat) (v : Value) (s : Int) (Q : List EdgeI) (u : Value) (K : List Int) (h1 : Q.length ≤ 1048576) (h2 : K.length ≤ 1048576) (w : World) (hB : B ≤ w.heap.size) (hv : GrAt w v B s Q) (hu : InAt w u B K) :
    Calls Try.prog 19 #[v, u] w fun e w' => (∃ d, e = .returned d ∧ SsOwn w' w.heap.size d (piecesR s Q K)) ∧ Below w.heap.size w w' := by
  have OK := hide (fun w1 (hb : Below w.heap.size w w1) => specGraph_any v B s Q h1 w1 (by have := hb.size; omega) (hv.below hb hB))
  have OS : Hid (graphOk s Q = true → ∀ w1, Below w.heap.size w w1 → Calls Try.prog 50 #[v, u] w1 fun e w' => (∃ d, e = .returned d ∧ SsOwn w' w1.heap.size d (piecesR s Q K)) ∧ Below w1.heap.size w1 w') := fun hg w1 hb => by
    obtain ⟨s0, s9⟩ := ok_size hg
    obtain ⟨n, rfl⟩ := Int.eq_ofNat_of_zero_le s0
    have e9 := rows_same hg K
    rw [Int.toNat_natCast] at e9
    have e8 : piecesR (n : Int) Q K = rowsS Q n K := by unfold piecesR; rw [if_pos hg, e9]
    rw [e8]
    refine (partsS_any v B n Q u K h1 h2 (by omega) w1 (by have := hb.size; omega) (hv.below hb hB) (hu.below hb hB)).mono ?_
    rintro e w' ⟨⟨d, vs, C, rfl, hg, hd, hC⟩, hb⟩
    exact ⟨⟨d, rfl, vs, ⟨C, hg, hC⟩, hd⟩, hb⟩
  have HR0 : Hid (graphOk s Q = false → piecesR s Q K = []) := fun h => by unfold piecesR; rw [h]; rfl
  obtain ⟨a, n, c, rfl, _⟩ := hv
  obtain ⟨au, cu, rfl, _⟩ := hu
  generalize piecesR s Q K = V at OS HR0 ⊢
  generalize graphOk s Q = gk at OK OS HR0
  clear h1 h2
  go_enter Try.func19, Try.ntmps19
  go_wp2_with fail
  obtain ⟨V1, hV1⟩ : ∃ W, W = w.alloc (Obj.cells #[Value.int .i64 s, Value.slice a n c] 30) := ⟨_, rfl⟩
  rw [← hV1]
  have x1 : GBox V1 w.heap.size s (.slice a n c) := by rw [hV1]; exact GBox.new _ _ _
  have b1 : Below w.heap.size w V1 := by rw [hV1]; exact below_new _ _
  clear hV1
  refine (unhide OK V1 b1).mono ?_
  rintro e w2 ⟨rfl, hb2⟩
  have x2 := x1.below hb2
  have b2 := b1.trans (hb2.mono b1.size)
  obtain ⟨p0, p1⟩ := x2.cells
  clear hb2 x1 OK b1 x2
  cases gk
  · have hR := unhide HR0 rfl
    subst hR
    have HE := hide ((ss_empty w2).lower b2.size)
    have HB := hide (b2.alloc b2.size (Obj.cells #[] 26))
    go_wp2
    go_ret
    exact ⟨⟨_, rfl, unhide HE⟩, unhide HB⟩
  · have OS2 := hide (unhide OS rfl)
    clear HR0 OS
    go_wp2_with fail
    refine (unhide OS2 w2 b2).mono ?_
    rintro e w3 ⟨⟨d, rfl, ho⟩, hb3⟩
    have b3 := b2.trans (hb3.mono b2.size)
    obtain ⟨A, cp, rfl⟩ := ho.shape
    have HO := hide (ho.lower b2.size)
    clear hb3 ho
    go_wp2
    go_ret
    exact ⟨⟨_, rfl, unhide HO⟩, b3⟩

set_option maxRecDepth 100000 in
set_option maxHeartbeats 4000000 in
theorem lists_any (v : Value) (B0 : Nat) (Ps : List (Nat → Bool)) (hl : Ps.length ≤ 9) (w : World) (hv : StsOwn w B0 v Ps) :
    Calls Try.prog 51 #[v] w fun e w' => (∃ d, e = .returned d ∧ SsOwn w' w.heap.size d (Ps.map fun p => setTo p 9)) ∧ Below w.heap.size w w' := by
  obtain ⟨i1, hi1, hy0, hy1, hy2⟩ := info_parts infoRow
  obtain ⟨A, cp, rfl⟩ := hv.shape
  have HO := hide hv
  obtain ⟨n, hn⟩ : ∃ n, n = Ps.length := ⟨_, rfl⟩
  have HNN := hide hn
  rw [← hn] at hl HO ⊢
  have hzv := zero_fl
  have HZ : Hid (Array.size (fl fun _ => false) = 9) := fl_size _
  generalize (fl fun _ => false) = Z at hzv HZ
  have HGN : Hid (∀ k (h : k < Ps.length), (Ps.take (k + 1)).map (fun p => setTo p 9) = (Ps.take k).map (fun p => setTo p 9) ++ [setTo Ps[k] 9]) := fun k h => by
    rw [List.take_succ_eq_append_getElem h, List.map_append]
    rfl
  have HEND : Hid ((Ps.take n).map (fun p => setTo p 9) = Ps.map fun p => setTo p 9) := by show _ = _; rw [hn, List.take_length]
  clear hv hn
  go_enter Try.func51, Try.ntmps51
  go_wp2_with fail
  go_loopw [3, 8] (fun al i wr => ∃ (k : Nat) (G : List (List Int)) (vs : List Value) (C : Nat), i = .int .i64 (k : Int) ∧ k ≤ n ∧ Hid (G = (Ps.take k).map (fun p => setTo p 9)) ∧ G.length ≤ k ∧ Hid (Grps wr w.heap.size C al vs G) ∧ Hid (Dist vs) ∧ C ≤ wr.heap.size ∧ Below w.heap.size w wr) (fun _ i _ => n - (intOf i).toNat)
  case atStart => exact ⟨0, [], [], w.heap.size, rfl, Nat.zero_le _, rfl, Nat.le_refl _, ⟨rfl, ⟨rfl, .inl ⟨rfl, rfl⟩⟩, fun j h => absurd h (by simp)⟩, Dist.nil, Nat.le_refl _, Below.refl _ _⟩
  case round =>
    obtain ⟨k, G, vs, C, rfl, hk, HG, hGl, HA, HDI, hC, hb⟩ := hrel
    obtain ⟨Aa, ca, rfl⟩ := row_shape (unhide HA).2.1
    by_cases hlt : k < n
    · have hkP : k < Ps.length := by have := unhide HNN; omega
      have HO1 := hide (own_below (unhide HO) hb)
      obtain ⟨g, c', hA, _, _⟩ := World.ownsRow.form (unhide HO1) (by omega)
      simp at hA
      obtain ⟨rfl, hAn, rfl⟩ := hA
      clear hAn
      have hrow := hide (StsOwn.row (unhide HO1) k hkP)
      have hiL := hide (infoVL Ps[k])
      have hi2 := hide (infoVF Ps[k])
      have h1C := hide (fl_one Ps[k])
      have HCS := hide (fl_size Ps[k])
      have LS := hide (fun W => list_any Ps[k] W)
      have hl9 := setTo_length Ps[k] 9
      have HG' : Hid (G ++ [setTo Ps[k] 9] = (Ps.take (k + 1)).map (fun p => setTo p 9)) := by show _ = _; rw [unhide HGN k hkP, unhide HG]
      generalize fl Ps[k] = CP at hrow hiL hi2 h1C HCS LS
      generalize setTo Ps[k] 9 = LP at LS HG' hl9
      have hki0 : (0 : Int) ≤ (k : Int) := by omega
      have hki1 : (k : Int) < (n : Int) := by omega
      have hzb := hb.size
      obtain ⟨V3, hV3⟩ : ∃ W, W = wr.alloc (Obj.cells Z 63) := ⟨_, rfl⟩
      have HB3 : Hid (Blk V3 wr.heap.size Z 63) := by show Blk _ _ _ _; rw [hV3]; exact Gr.Blk.new0
      have t3 : Hid (V3.there wr.heap.size 0 CP.size) := (unhide HB3).there 0 _ (by rw [unhide HZ, unhide HCS]; omega)
      obtain ⟨V4, hV4⟩ : ∃ W, W = V3.setCells wr.heap.size 0 CP.toList := ⟨_, rfl⟩
      have HC4 : Hid (Blk V4 wr.heap.size CP 63) := by
        have h := Gr.Blk.many CP.toList 0 (unhide HB3)
        rw [setMany_all _ _ (by rw [unhide HZ, unhide HCS])] at h
        rw [hV4]
        exact h
      have n4 : Below wr.heap.size wr V4 := by rw [hV4, hV3]; exact below_setCells _ _ (Nat.le_refl _) _ _ _ _ (below_new _ _)
      have r4 := hide (unhide HC4).range
      rw [hV3] at t3 hV4
      rw [hV4] at r4
      clear HB3 hV3 HC4 hlt
      go_wp2_with (first
        | refine wpList_store_mid rfl 63 _ _ rfl wr.heap.size 0 CP rfl rfl (unhide t3) (unhide hi2) (unhide h1C) ?_
        | refine wpList_load_mid rfl 63 _ rfl g (k * 9) rfl CP.toList _ (unhide hrow) Try.underlying63 rfl (unhide hiL) ?_
        | refine wpList_load_mid rfl 63 _ rfl wr.heap.size 0 rfl CP.toList _ (unhide r4) Try.underlying63 rfl (unhide hiL) ?_)
      rw [← hV4]
      clear hV4 t3 r4
      refine (unhide LS V4).mono ?_
      rintro e w5 ⟨⟨d, rfl, ho⟩, hb5⟩
      have n5 := n4.trans (hb5.mono n4.size)
      obtain ⟨A5, c5, rfl, _⟩ := intsAt_of_own ho
      have b5 := hb.trans (n5.mono hb.size)
      have hA5 := (unhide HA).below n5
      have hownA := hA5.2.1
      have hz5 : wr.heap.size ≤ V4.heap.size := n4.size
      have hz6 : V4.heap.size ≤ w5.heap.size := hb5.size
      have b7 := below_new w5 (Obj.cells #[Value.slice A5 LP.length c5] 26)
      clear hb5 n4 n5 LS
      go_wp2_with (at_builtin; refine wpList_append_own_at _ rfl _ _ 37 rfl w.heap.size 26 i1 (.slice none 0 0) 1 24 Try.underlying37 hi1 hy0 hy1 hy2 rfl (by decide) _ _ _ rfl (own_below hownA b7) ⟨w5.heap.size, 0, none⟩ 1 1 [Value.slice A5 LP.length c5] rfl rfl (cell_one_new _ _ _) (by simp [Value.oneCell']) ?_ ?_ ?_ ?_)
      · unfold maxLen; omega
      · omega
      · simp; omega
      intro al' w8 hown8 hgrow8 _ hat8
      have hA7 := hA5.below b7
      have hP7 := own_below ho b7
      have hk8 : Kept (fun g => (Value.slice Aa G.length ca).ownBlock = some g) (w5.alloc (Obj.cells #[Value.slice A5 LP.length c5] 26)) w8 := Gr.Kept.of_grown hgrow8
      have hz8 : w5.heap.size < w8.heap.size := by have := hgrow8.size; simp at this; omega
      have HA8 : Hid (Grps w8 w.heap.size w8.heap.size al' (vs ++ [Value.slice A5 LP.length c5]) (G ++ [LP])) := hA7.snoc (own_lower (by omega) hP7) (fun g hg => by have := (World.ownsRow.lt ho g hg).2; omega) (by omega) hown8 hk8
      have HDI8 : Hid (Dist (vs ++ [Value.slice A5 LP.length c5])) := (unhide HDI).snoc (C := wr.heap.size) (fun j h g hg => by
        have := (hA7.2.2 j h (by rw [← hA7.1]; exact h)).2 g hg
        omega) (fun g hg => by have := (World.ownsRow.lt ho g hg).1; omega)
      obtain ⟨Aa8, ca8, rfl⟩ := row_shape hown8
      have b8 : Below w.heap.size w w8 := (b5.trans (b7.mono b5.size)).grown hgrow8 (by simp; omega) (fun k hk => (World.ownsRow.lt hownA k hk).1)
      have hGl8 : (G ++ [LP]).length ≤ k + 1 := by simp; omega
      clear hown8 hgrow8 hat8 hA7 hP7 hk8 hownA b7 hA5 ho HDI HA
      go_wp2_with fail
      exact ⟨⟨k + 1, _, _, _, by go_num, by omega, HG', hGl8, HA8, HDI8, Nat.le_refl _, b8⟩, by simp [intOf]; omega⟩
    · obtain rfl : k = n := by omega
      have hgg := unhide HG
      rw [unhide HEND] at hgg
      have HS : Hid (SsOwn wr w.heap.size (.slice Aa G.length ca) (Ps.map fun p => setTo p 9)) := by
        show SsOwn _ _ _ _
        rw [← hgg]
        exact ⟨vs, ⟨C, unhide HA, hC⟩, unhide HDI⟩
      clear hgg
      go_wp2_with fail
      go_ret
      exact ⟨⟨_, rfl, unhide HS⟩, hb⟩

set_option maxRecDepth 100000 in
set_option maxHeartbeats 4000000 in
theorem implPieces_gen (B : Nat) (v : Value) (s : Int) (Q : List EdgeI) (u : Value) (K : List Int) (h1 : Q.length ≤ 1048576) (h2 : K.length ≤ 1048576) (w : World) (hB : B ≤ w.heap.size) (hv : GrAt w v B s Q) (hu : InAt w u B K) :
    Calls Try.prog 21 #[v, u] w fun e w' => (∃ d, e = .returned d ∧ SsOwn w' w.heap.size d (piecesR s Q K)) ∧ Below w.heap.size w w' := by
  have OK := hide (fun w1 (hb : Below w.heap.size w w1) => implGraph_gen B v s Q h1 w1 (by have := hb.size; omega) (hv.below hb hB))
  have LI := hide (fun (hg : graphOk s Q = true) w1 (hb : Below w.heap.size w w1) => links_any B v s Q h1 (apart_of hg).1 w1 (by have := hb.size; omega) (hv.below hb hB))
  have LO := hide (fun n (hn : n ≤ 9) w1 (hb : Below w.heap.size w w1) => leftOf_any n hn u B K h2 w1 (by have := hb.size; omega) (hu.below hb hB))
  have OP := hide (fun f T W hW => parts_any (lnkF Q) f T W hW)
  have LL := hide (fun Ps hl v B0 W hv => lists_any v B0 Ps hl W hv)
  have HPL := hide (fun f => prts_length (lnkF Q) (List.range' 0 9) f)
  have HR : Hid (graphOk s Q = true → 0 ≤ s ∧ s ≤ 9 ∧ piecesR s Q K = (prts (lnkF Q) (List.range' 0 9) (leftF s.toNat K)).map fun p => setTo p 9) := fun h => by
    obtain ⟨s0, s9⟩ := ok_size h
    exact ⟨s0, s9, by unfold piecesR partsR; rw [if_pos h]⟩
  have HR0 : Hid (graphOk s Q = false → piecesR s Q K = []) := fun h => by unfold piecesR; rw [h]; rfl
  obtain ⟨a, n, c, rfl, _⟩ := hv
  obtain ⟨au, cu, rfl, _⟩ := hu
  have hi2 := hide (infoTF (lnkF Q))
  have h1C := hide (tb_one (lnkF Q))
  have HCS := hide (tb_size (lnkF Q))
  have hzv := zero_tb
  have HZ : Hid (Array.size (tb fun _ _ => false) = 81) := tb_size _
  generalize (tb fun _ _ => false) = Z at hzv HZ
  generalize piecesR s Q K = V at HR HR0 ⊢
  generalize graphOk s Q = gk at OK LI HR HR0
  clear h1 h2
  go_enter Try.func21, Try.ntmps21
  go_wp2_with fail
  obtain ⟨V1, hV1⟩ : ∃ W, W = w.alloc (Obj.cells #[Value.int .i64 s, Value.slice a n c] 30) := ⟨_, rfl⟩
  rw [← hV1]
  have x1 : GBox V1 w.heap.size s (.slice a n c) := by rw [hV1]; exact GBox.new _ _ _
  have b1 : Below w.heap.size w V1 := by rw [hV1]; exact below_new _ _
  clear hV1
  refine (unhide OK V1 b1).mono ?_
  rintro e w2 ⟨rfl, hb2⟩
  have x2 := x1.below hb2
  have b2 := b1.trans (hb2.mono b1.size)
  obtain ⟨p0, p1⟩ := x2.cells
  clear hb2 x1 OK b1
  cases gk
  · have hR := unhide HR0 rfl
    subst hR
    go_wp2
    go_ret
    exact ⟨⟨_, rfl, ss_nil _ _⟩, b2⟩
  · obtain ⟨s0, s9, hR⟩ := unhide HR rfl
    obtain ⟨N, rfl⟩ := Int.eq_ofNat_of_zero_le s0
    have hN9 : N ≤ 9 := by omega
    rw [Int.toNat_natCast] at hR
    subst hR
    have LI2 := hide (unhide LI rfl)
    clear HR HR0 LI
    go_wp2_with fail
    refine (unhide LI2 w2 b2).mono ?_
    rintro e w3 ⟨rfl, hb3⟩
    have x3 := x2.below hb3
    have b3 := b2.trans (hb3.mono b2.size)
    have z3 := x3.lt
    obtain ⟨C, hC⟩ : ∃ C, C = tb (lnkF Q) := ⟨_, rfl⟩
    rw [← hC] at hi2 h1C HCS ⊢
    have HCE := hide hC
    obtain ⟨V3, hV3⟩ : ∃ W, W = w3.alloc (Obj.cells Z 65) := ⟨_, rfl⟩
    have HB3 : Hid (Blk V3 w3.heap.size Z 65) := by show Blk _ _ _ _; rw [hV3]; exact Gr.Blk.new0
    have t3 : Hid (V3.there w3.heap.size 0 C.size) := (unhide HB3).there 0 _ (by rw [unhide HZ, unhide HCS]; omega)
    obtain ⟨V4, hV4⟩ : ∃ W, W = V3.setCells w3.heap.size 0 C.toList := ⟨_, rfl⟩
    have HC4 : Hid (Blk V4 w3.heap.size (tb (lnkF Q)) 65) := by
      have h := Gr.Blk.many C.toList 0 (unhide HB3)
      rw [setMany_all _ _ (by rw [unhide HZ, unhide HCS])] at h
      rw [hV4, ← unhide HCE]
      exact h
    have b34 : Below w3.heap.size w3 V4 := by rw [hV4, hV3]; exact below_setCells _ _ (Nat.le_refl _) _ _ _ _ (below_new _ _)
    have b4 := b3.trans (b34.mono b3.size)
    have x4 := x3.below b34
    obtain ⟨q0, q1⟩ := x4.cells
    rw [hV3] at t3 hV4
    rw [hV4] at q0 q1
    clear hb3 HB3 hV3 p0 p1 x2 x3 x4 hC
    go_wp2_with (first
      | refine wpList_store_mid rfl 65 _ _ rfl w3.heap.size 0 C rfl rfl (unhide t3) (unhide hi2) (unhide h1C) ?_)
    rw [← hV4]
    clear hV4 t3 q0 q1
    refine (unhide LO N hN9 V4 b4).mono ?_
    rintro e w5 ⟨rfl, hb5⟩
    have b5 := b4.trans (hb5.mono b4.size)
    have OPW := hide (unhide OP (leftF N K) w3.heap.size w5 ((unhide HC4).below hb5))
    clear hb5
    go_wp2_with fail
    refine (unhide OPW).mono ?_
    rintro e w6 ⟨⟨d6, rfl, ho6⟩, hb6⟩
    have b6 := b5.trans (hb6.mono b5.size)
    obtain ⟨A6, c6, rfl⟩ := ho6.shape
    have LLW := hide (unhide LL _ (by have := unhide HPL (leftF N K); simpa using this) _ _ w6 ho6)
    clear ho6 hb6
    go_wp2_with fail
    refine (unhide LLW).mono ?_
    rintro e w7 ⟨⟨d7, rfl, ho7⟩, hb7⟩
    have b7 := b6.trans (hb7.mono b6.size)
    obtain ⟨A7, c7, h7⟩ := ho7.shape
    rw [List.length_map] at h7
    subst h7
    have HO7 := hide (ho7.lower b6.size)
    clear ho7 hb7
    go_wp2
    go_ret
    exact ⟨⟨_, rfl, unhide HO7⟩, b7⟩

end Lk
end Go.Proofs.Ytejfknkcakeakaa
