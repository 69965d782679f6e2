/-
 LkZ.
-/
import Derived.Test.YtnihoabminnbcaaJ20
namespace Go.Proofs.Ytnihoabminnbcaa
namespace Lk
open Go.RowKit
open Gr (Blk Kept EdgeI GrAt GBox below_new InOwn InAt own_below own_lower intsV intsAt_of_own info3 graphOk specGraph_any implGraph_gen setMany setMany_all below_setCells marksN)
/-- Rows of rows, made by a call: its rows known. -/
def SsV (w : World) (B : Nat) (v : Value) (vs : List Value) (G : List (List Int)) : Prop := (∃ C, Grps w B C v vs G ∧ C ≤ w.heap.size) ∧ Dist vs
def SsOwn (w : World) (B : Nat) (v : Value) (G : List (List Int)) : Prop := ∃ vs, SsV w B v vs G
def SsAt (w : World) (v : Value) (_B : Nat) (G : List (List Int)) : Prop := ∃ B0 vs C, Grps w B0 C v vs G
def SsBlk (v : Value) (vs : List Value) (g : Nat) : Prop := v.ownBlock = some g ∨ ∃ j, ∃ h1 : j < vs.length, vs[j].ownBlock = some g
/-- Their size: the rows and what they hold. -/
def ssz (G : List (List Int)) : Nat := G.length + G.flatten.length
theorem SsAt.shape {w : World} {v : Value} {B : Nat} {G : List (List Int)} (h : SsAt w v B G) : ∃ a c, v = .slice a G.length c := by
  obtain ⟨_, _, _, h⟩ := h
  exact row_shape h.2.1
theorem SsV.at {w : World} {B : Nat} {v : Value} {vs : List Value} {G : List (List Int)} (h : SsV w B v vs G) : SsAt w v w.heap.size G := by
  obtain ⟨⟨C, h, _⟩, _⟩ := h
  exact ⟨_, _, _, h⟩
theorem SsV.below {w w' : World} {B : Nat} {v : Value} {vs : List Value} {G : List (List Int)} (h : SsV w B v vs G) (hb : Below w.heap.size w w') : SsV w' B v vs G := by
  obtain ⟨⟨C, h, hC⟩, hd⟩ := h
  exact ⟨⟨C, h.below hb, Nat.le_trans hC hb.size⟩, hd⟩
theorem SsV.blk {w : World} {B : Nat} {v : Value} {vs : List Value} {G : List (List Int)} (h : SsV w B v vs G) : ∀ g, SsBlk v vs g → B ≤ g ∧ g < w.heap.size := fun g hg => by
  obtain ⟨⟨C, h, _⟩, _⟩ := h
  rcases hg with hg | ⟨j, h1, hg⟩
  · exact h.blk.1 g hg
  · exact h.blk.2 j h1 g hg
theorem SsV.kept {S : Nat → Prop} {w w' : World} {B : Nat} {v : Value} {vs : List Value} {G : List (List Int)} (h : SsV w B v vs G) (hk : Kept S w w') (hS : ∀ g, SsBlk v vs g → ¬ S g) : SsV w' B v vs G := by
  obtain ⟨⟨C, h, hC⟩, hd⟩ := h
  exact ⟨⟨C, h.kept hk (fun g hg => hS g (.inl hg)) (fun j h1 g hg => hS g (.inr ⟨j, h1, hg⟩)), Nat.le_trans hC hk.2.2.2.1⟩, hd⟩
/-- The marks. -/
def marksSS (k : Nat) (G : List (List Int)) : List (List Int) := mixG k G G.length
theorem marksSS_flat (k : Nat) (G : List (List Int)) : (marksSS k G).length = G.length := mixG_length k G G.length
theorem pieces_len (s : Int) (Q : List EdgeI) (K : List Int) : ssz (piecesR s Q K) ≤ 1048576 := by
  unfold ssz piecesR
  split
  · rename_i h
    have h1 : (partsR s Q K).length ≤ 9 := by unfold partsR; have := prts_length (lnkF Q) (List.range' 0 9) (leftF s.toNat K); simpa using this
    have h2 : ∀ (L : List (Nat → Bool)), (L.map fun p => setTo p 9).flatten.length ≤ 9 * L.length := fun L => by
      induction L with
      | nil => simp
      | cons p r ih =>
        have := setTo_length p 9
        simp only [List.map_cons, List.flatten_cons, List.length_append, List.length_cons]
        omega
    have := h2 (partsR s Q K)
    rw [List.length_map]
    omega
  · simp
theorem ss_nil (w : World) (B : Nat) : SsOwn w B (.slice none 0 0) [] := ⟨[], ⟨w.heap.size, ⟨rfl, ⟨rfl, .inl ⟨rfl, rfl⟩⟩, fun j h => absurd h (by simp)⟩, Nat.le_refl _⟩, Dist.nil⟩
theorem ss_empty (w : World) : SsOwn (w.alloc (Obj.cells #[] 30)) w.heap.size (.slice (some ⟨w.heap.size, 0, none⟩) 0 0) [] :=
  ⟨[], ⟨(w.alloc (Obj.cells #[] 30)).heap.size, ⟨rfl, World.ownsRow_made (size := 1) w (e := 30) #[] 0 (Nat.le_refl _) (Nat.zero_le _) (show (#[] : Array Value).size = 0 * 1 from rfl), fun j h => absurd h (by simp)⟩, Nat.le_refl _⟩, Dist.nil⟩
theorem SsOwn.lower {w : World} {B C : Nat} {v : Value} {G : List (List Int)} (h : SsOwn w B v G) (hC : C ≤ B) : SsOwn w C v G := by
  obtain ⟨vs, ⟨D, h, hD⟩, hd⟩ := h
  exact ⟨vs, ⟨D, h.lower hC, hD⟩, hd⟩
theorem SsOwn.shape {w : World} {B : Nat} {v : Value} {G : List (List Int)} (h : SsOwn w B v G) : ∃ a c, v = .slice a G.length c := by
  obtain ⟨vs, ⟨D, h, hD⟩, hd⟩ := h
  exact row_shape h.2.1
set_option maxRecDepth 100000 in
set_option maxHeartbeats 4000000 in
theorem lists_any (v : Value) (B0 : Nat) (Ps : List (Nat → Bool)) (hl : Ps.length ≤ 9) (w : World) (hv : StsOwn w B0 v Ps) :
    Calls Try.prog 22 #[v] w fun e w' => (∃ d, e = .returned d ∧ SsOwn w' w.heap.size d (Ps.map fun p => setTo p 9)) ∧ Below w.heap.size w w' := by
  obtain ⟨i1, hi1, hy0, hy1, hy2⟩ := info_parts infoRow
  obtain ⟨A, cp, rfl⟩ := hv.shape
  have HO := hide hv
  obtain ⟨n, hn⟩ : ∃ n, n = Ps.length := ⟨_, rfl⟩
  have HNN := hide hn
  rw [← hn] at hl HO ⊢
  have hzv := zero_fl
  have HZ : Hid (Array.size (fl fun _ => false) = 9) := fl_size _
  generalize (fl fun _ => false) = Z at hzv HZ
  have HGN : Hid (∀ k (h : k < Ps.length), (Ps.take (k + 1)).map (fun p => setTo p 9) = (Ps.take k).map (fun p => setTo p 9) ++ [setTo Ps[k] 9]) := fun k h => by
    rw [List.take_succ_eq_append_getElem h, List.map_append]
    rfl
  have HEND : Hid ((Ps.take n).map (fun p => setTo p 9) = Ps.map fun p => setTo p 9) := by show _ = _; rw [hn, List.take_length]
  clear hv hn
  go_enter Try.func22, Try.ntmps22
  go_wp2_with fail
  go_loopw [3, 8] (fun al i wr => ∃ (k : Nat) (G : List (List Int)) (vs : List Value) (C : Nat), i = .int .i64 (k : Int) ∧ k ≤ n ∧ Hid (G = (Ps.take k).map (fun p => setTo p 9)) ∧ G.length ≤ k ∧ Hid (Grps wr w.heap.size C al vs G) ∧ Hid (Dist vs) ∧ C ≤ wr.heap.size ∧ Below w.heap.size w wr) (fun _ i _ => n - (intOf i).toNat)
  case atStart => exact ⟨0, [], [], w.heap.size, rfl, Nat.zero_le _, rfl, Nat.le_refl _, ⟨rfl, ⟨rfl, .inl ⟨rfl, rfl⟩⟩, fun j h => absurd h (by simp)⟩, Dist.nil, Nat.le_refl _, Below.refl _ _⟩
  case round =>
    obtain ⟨k, G, vs, C, rfl, hk, HG, hGl, HA, HDI, hC, hb⟩ := hrel
    obtain ⟨Aa, ca, rfl⟩ := row_shape (unhide HA).2.1
    by_cases hlt : k < n
    · have hkP : k < Ps.length := by have := unhide HNN; omega
      have HO1 := hide (own_below (unhide HO) hb)
      obtain ⟨g, c', hA, _, _⟩ := World.ownsRow.form (unhide HO1) (by omega)
      simp at hA
      obtain ⟨rfl, hAn, rfl⟩ := hA
      clear hAn
      have hrow := hide (StsOwn.row (unhide HO1) k hkP)
      have hiL := hide (infoVL Ps[k])
      have hi2 := hide (infoVF Ps[k])
      have h1C := hide (fl_one Ps[k])
      have HCS := hide (fl_size Ps[k])
      have LS := hide (fun W => list_any Ps[k] W)
      have hl9 := setTo_length Ps[k] 9
      have HG' : Hid (G ++ [setTo Ps[k] 9] = (Ps.take (k + 1)).map (fun p => setTo p 9)) := by show _ = _; rw [unhide HGN k hkP, unhide HG]
      generalize fl Ps[k] = CP at hrow hiL hi2 h1C HCS LS
      generalize setTo Ps[k] 9 = LP at LS HG' hl9
      have hki0 : (0 : Int) ≤ (k : Int) := by omega
      have hki1 : (k : Int) < (n : Int) := by omega
      have hzb := hb.size
      obtain ⟨V3, hV3⟩ : ∃ W, W = wr.alloc (Obj.cells Z 60) := ⟨_, rfl⟩
      have HB3 : Hid (Blk V3 wr.heap.size Z 60) := by show Blk _ _ _ _; rw [hV3]; exact Gr.Blk.new0
      have t3 : Hid (V3.there wr.heap.size 0 CP.size) := (unhide HB3).there 0 _ (by rw [unhide HZ, unhide HCS]; omega)
      obtain ⟨V4, hV4⟩ : ∃ W, W = V3.setCells wr.heap.size 0 CP.toList := ⟨_, rfl⟩
      have HC4 : Hid (Blk V4 wr.heap.size CP 60) := by
        have h := Gr.Blk.many CP.toList 0 (unhide HB3)
        rw [setMany_all _ _ (by rw [unhide HZ, unhide HCS])] at h
        rw [hV4]
        exact h
      have n4 : Below wr.heap.size wr V4 := by rw [hV4, hV3]; exact below_setCells _ _ (Nat.le_refl _) _ _ _ _ (below_new _ _)
      have r4 := hide (unhide HC4).range
      rw [hV3] at t3 hV4
      rw [hV4] at r4
      clear HB3 hV3 HC4 hlt
      go_wp2_with (first
        | refine wpList_store_mid rfl 60 _ _ rfl wr.heap.size 0 CP rfl rfl (unhide t3) (unhide hi2) (unhide h1C) ?_
        | refine wpList_load_mid rfl 60 _ rfl g (k * 9) rfl CP.toList _ (unhide hrow) Try.underlying60 rfl (unhide hiL) ?_
        | refine wpList_load_mid rfl 60 _ rfl wr.heap.size 0 rfl CP.toList _ (unhide r4) Try.underlying60 rfl (unhide hiL) ?_)
      rw [← hV4]
      clear hV4 t3 r4
      refine (unhide LS V4).mono ?_
      rintro e w5 ⟨⟨d, rfl, ho⟩, hb5⟩
      have n5 := n4.trans (hb5.mono n4.size)
      obtain ⟨A5, c5, rfl, _⟩ := intsAt_of_own ho
      have b5 := hb.trans (n5.mono hb.size)
      have hA5 := (unhide HA).below n5
      have hownA := hA5.2.1
      have hz5 : wr.heap.size ≤ V4.heap.size := n4.size
      have hz6 : V4.heap.size ≤ w5.heap.size := hb5.size
      have b7 := below_new w5 (Obj.cells #[Value.slice A5 LP.length c5] 30)
      clear hb5 n4 n5 LS
      go_wp2_with (at_builtin; refine wpList_append_own_at _ rfl _ _ 36 rfl w.heap.size 30 i1 (.slice none 0 0) 1 24 Try.underlying36 hi1 hy0 hy1 hy2 rfl (by decide) _ _ _ rfl (own_below hownA b7) ⟨w5.heap.size, 0, none⟩ 1 1 [Value.slice A5 LP.length c5] rfl rfl (cell_one_new _ _ _) (by simp [Value.oneCell']) ?_ ?_ ?_ ?_)
      · unfold maxLen; omega
      · omega
      · simp; omega
      intro al' w8 hown8 hgrow8 _ hat8
      have hA7 := hA5.below b7
      have hP7 := own_below ho b7
      have hk8 : Kept (fun g => (Value.slice Aa G.length ca).ownBlock = some g) (w5.alloc (Obj.cells #[Value.slice A5 LP.length c5] 30)) w8 := Gr.Kept.of_grown hgrow8
      have hz8 : w5.heap.size < w8.heap.size := by have := hgrow8.size; simp at this; omega
      have HA8 : Hid (Grps w8 w.heap.size w8.heap.size al' (vs ++ [Value.slice A5 LP.length c5]) (G ++ [LP])) := hA7.snoc (own_lower (by omega) hP7) (fun g hg => by have := (World.ownsRow.lt ho g hg).2; omega) (by omega) hown8 hk8
      have HDI8 : Hid (Dist (vs ++ [Value.slice A5 LP.length c5])) := (unhide HDI).snoc (C := wr.heap.size) (fun j h g hg => by
        have := (hA7.2.2 j h (by rw [← hA7.1]; exact h)).2 g hg
        omega) (fun g hg => by have := (World.ownsRow.lt ho g hg).1; omega)
      obtain ⟨Aa8, ca8, rfl⟩ := row_shape hown8
      have b8 : Below w.heap.size w w8 := (b5.trans (b7.mono b5.size)).grown hgrow8 (by simp; omega) (fun k hk => (World.ownsRow.lt hownA k hk).1)
      have hGl8 : (G ++ [LP]).length ≤ k + 1 := by simp; omega
      clear hown8 hgrow8 hat8 hA7 hP7 hk8 hownA b7 hA5 ho HDI HA
      go_wp2_with fail
      exact ⟨⟨k + 1, _, _, _, by go_num, by omega, HG', hGl8, HA8, HDI8, Nat.le_refl _, b8⟩, by simp [intOf]; omega⟩
    · obtain rfl : k = n := by omega
      have hgg := unhide HG
      rw [unhide HEND] at hgg
      have HS : Hid (SsOwn wr w.heap.size (.slice Aa G.length ca) (Ps.map fun p => setTo p 9)) := by
        show SsOwn _ _ _ _
        rw [← hgg]
        exact ⟨vs, ⟨C, unhide HA, hC⟩, unhide HDI⟩
      clear hgg
      go_wp2_with fail
      go_ret
      exact ⟨⟨_, rfl, unhide HS⟩, hb⟩
end Lk
end Go.Proofs.Ytnihoabminnbcaa
