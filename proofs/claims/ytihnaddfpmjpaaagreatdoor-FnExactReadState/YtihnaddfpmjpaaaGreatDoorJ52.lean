/-
 CyR2.
-/
import Derived.Test.YtihnaddfpmjpaaaGreatDoorJ51
import Derived.Test.YtihnaddfpmjpaaaGreatDoorJ32
import Derived.Deep.LoopGhost
namespace Go.Proofs.YtihnaddfpmjpaaaGreatDoor
namespace Cy
open Go.RowKit
open Gr (Blk Kept)
theorem pairs_snoc (Q : Rg.PL) (x s : ByteArray) : Tr.pairsV (Q ++ [(x, s)]) = Tr.pairsV Q ++ [.string x, .string s] := by
  unfold Tr.pairsV
  rw [List.flatMap_append]
  rfl
theorem cy_news (W : World) (x s : ByteArray) (t : TypeId) : ∀ j u, [Value.string x, Value.string s][j]? = some u → (W.alloc (Obj.cells #[.string x, .string s] t)).cell? ((⟨W.heap.size, 0, none⟩ : Addr).add j) = some u :=
  World.news_of_block (heap_alloc_new W (Obj.cells #[.string x, .string s] t))
theorem cy_one (x s : ByteArray) : ∀ u ∈ [Value.string x, Value.string s], u.oneCell' = true := by
  intro u hu
  simp only [List.mem_cons, List.mem_nil_iff, or_false] at hu
  rcases hu with rfl | rfl <;> rfl
theorem same_cell {w w' : World} {k off : Nat} (h : w'.heap[k]? = w.heap[k]?) : w'.cell? ⟨k, off, none⟩ = w.cell? ⟨k, off, none⟩ := by
  simp only [World.cell?, h]
theorem ErrIs.kept {w w' : World} {ea : Addr} {b : Nat} (h : ErrIs w ea) (hk : Kept (fun k => k = b) w w') (h0 : 0 < b) (hl : 0 < w.heap.size) : ErrIs w' ea :=
  (same_cell (hk.2.2.2.2 0 hl (by omega))).trans h
theorem ErrIs.below {w w' : World} {ea : Addr} {n : Nat} (h : ErrIs w ea) (hb : Below n w w') (hl : 0 < n) : ErrIs w' ea :=
  (hb.cell (p := ⟨0, 0, none⟩) hl).trans h
theorem allF_none {s : ByteArray} {f a : Nat} (hf : s.size < f + a) (ha : a ≤ s.size) (h : rdP s a = none) : allF s f a = ([], a) := by
  obtain ⟨g, rfl⟩ : ∃ g, f = g + 1 := ⟨f - 1, by omega⟩
  unfold allF
  rw [h]
theorem allF_some {s : ByteArray} {f a : Nat} {q : (ByteArray × ByteArray) × Nat} (hf : s.size < f + a) (ha : a ≤ s.size) (h : rdP s a = some q) : ∃ g, f = g + 1 ∧ allF s f a = (q.1 :: (allF s g q.2).1, (allF s g q.2).2) ∧ s.size < g + q.2 ∧ q.2 ≤ s.size ∧ a + 1 ≤ q.2 := by
  obtain ⟨g, rfl⟩ : ∃ g, f = g + 1 := ⟨f - 1, by omega⟩
  obtain ⟨_, h1, h2, _⟩ := rdP_text h
  refine ⟨g, rfl, ?_, by omega, h1, by omega⟩
  conv => lhs; unfold allF
  rw [h]
set_option maxRecDepth 100000 in
set_option maxHeartbeats 4000000 in
theorem all_any (s : ByteArray) (a b : Nat) (ea : Addr) (hs : s.size ≤ 1048576) (ha : a ≤ s.size) (hb0 : 0 < b) (w : World) (hR : RdBox w b s a) (hE : ErrIs w ea) :
    Calls Tryz.prog 96 #[.pointer (some ⟨b, 0, none⟩)] w fun e w' => (∃ d, e = .returned d ∧ w'.ownsRow w.heap.size 55 2 d (allF s (s.size + 1) a).1.length (Tr.pairsV (allF s (s.size + 1) a).1)) ∧ RdBox w' b s (allF s (s.size + 1) a).2 ∧ (allF s (s.size + 1) a).1.length ≤ s.size ∧ Kept (fun k => k = b) w w' := by
  obtain ⟨i0, hi, hz0, hz1, hz2⟩ := info_parts Tr.infoPair
  have hbl : b < w.heap.size := Gr.Blk.lt hR
  obtain ⟨R, hRR⟩ : ∃ R, R = allF s (s.size + 1) a := ⟨_, rfl⟩
  rw [← hRR]
  have HI0 : Hid (R = ([] ++ (allF s (s.size + 1) a).1, (allF s (s.size + 1) a).2)) := by show _ = _; rw [hRR]; rfl
  have HR0 := hide hR
  have HE0 := hide hE
  have NX := hide (fun a' W (h1 : RdBox W b s a') (h2 : ErrIs W ea) => next_any s a' b ea hs hb0 W h1 h2)
  clear hR hE hRR
  go_enter Tryz.func96, Tryz.ntmps96
  go_wp2_with fail
  go_loopg [3] (s.size + 1) (fun f v wr => ∃ (L : Rg.PL) (a' : Nat), s.size < f + a' ∧ a' ≤ s.size ∧ L.length ≤ a' ∧ Hid (R = (L ++ (allF s f a').1, (allF s f a').2)) ∧ Hid (wr.ownsRow w.heap.size 55 2 v L.length (Tr.pairsV L)) ∧ Hid (RdBox wr b s a') ∧ Hid (Kept (fun k => k = b) w wr))
  case atStart => exact ⟨[], a, by omega, ha, Nat.zero_le _, HI0, ⟨rfl, .inl ⟨rfl, rfl⟩⟩, HR0, Kept.refl _ _⟩
  case round =>
    obtain ⟨L, a', hf, ha', hLa, HR, HO, HB, HK⟩ := hrel
    have hk := unhide HK
    have hzk := hk.2.2.2.1
    have hEr : ErrIs wr ea := ErrIs.kept (unhide HE0) hk hb0 (by omega)
    have NXW := unhide NX a' wr (unhide HB) hEr
    have hbr : b < wr.heap.size := by omega
    cases hq : rdP s a' with
    | none =>
      have NXN : Hid (Calls Tryz.prog 117 #[.pointer (some ⟨b, 0, none⟩)] wr fun e w' => (e = .returned (.tuple #[.agg #[.string ⟨#[]⟩, .string ⟨#[]⟩], .iface 250 (.pointer (some ea))]) ∧ RdBox w' b s a') ∧ Kept (fun k => k = b) wr w') := by
        have h := NXW
        rw [hq] at h
        exact h
      have hRe := unhide HR
      rw [allF_none hf ha' hq, List.append_nil] at hRe
      subst hRe
      clear NXW hq HR HI0 HB NX
      go_wp2_with fail
      refine (unhide NXN).mono ?_
      rintro e w2 ⟨⟨rfl, hb2⟩, hk2⟩
      have hk3 := hk.trans hk2
      have hzA := hk2.2.2.2.1
      have hE2 : ErrIs w2 ea := ErrIs.kept hEr hk2 hb0 (by omega)
      obtain ⟨W3, hW3⟩ : ∃ W, W = w2.alloc (Obj.cells #[.string ⟨#[]⟩, .string ⟨#[]⟩] 55) := ⟨_, rfl⟩
      have b3 : Below w2.heap.size w2 W3 := by rw [hW3]; exact Gr.below_new _ _
      have e3 : W3.cell? ⟨0, 0, none⟩ = some (.iface 250 (.pointer (some ea))) := hE2.below b3 (by omega)
      have HB3 : Hid (RdBox W3 b s a') := Gr.Blk.below hb2 b3
      have HK3 := hide (hk3.trans (Kept.of_below b3))
      have HO3 : Hid (W3.ownsRow w.heap.size 55 2 u3 L.length (Tr.pairsV L)) := Gr.own_below (hk2.own (unhide HO) (fun g hg e => by have := ((unhide HO).lt g hg).1; omega)) b3
      rw [hW3] at e3
      clear hb2 hk2 hk3 b3 HO HK hk hE2 NXN
      go_wp2_with fail
      rw [← hW3]
      clear hW3 e3
      refine (is_same ea W3).mono ?_
      rintro e w4 ⟨rfl, rfl⟩
      go_wp2
      go_ret
      exact ⟨⟨_, rfl, unhide HO3⟩, unhide HB3, by show L.length ≤ _; omega, unhide HK3⟩
    | some q =>
      obtain ⟨g, rfl, hall, hf2, ha2, haa⟩ := allF_some hf ha' hq
      obtain ⟨⟨qx, qy⟩, qe⟩ := q
      simp only at hall hf2 ha2 haa
      have NXN : Hid (Calls Tryz.prog 117 #[.pointer (some ⟨b, 0, none⟩)] wr fun e w' => (e = .returned (.tuple #[.agg #[.string qx, .string qy], .nilIface]) ∧ RdBox w' b s qe) ∧ Kept (fun k => k = b) wr w') := by
        have h := NXW
        rw [hq] at h
        exact h
      have HR2 : Hid (R = ((L ++ [(qx, qy)]) ++ (allF s g qe).1, (allF s g qe).2)) := by
        show _ = _
        rw [unhide HR, hall]
        simp
      clear NXW hq HR HI0 HB NX hall
      go_wp2_with fail
      refine (unhide NXN).mono ?_
      rintro e w2 ⟨⟨rfl, hb2⟩, hk2⟩
      have hk3 := hk.trans hk2
      have hzA := hk2.2.2.2.1
      have hE2 : ErrIs w2 ea := ErrIs.kept hEr hk2 hb0 (by omega)
      obtain ⟨W3, hW3⟩ : ∃ W, W = w2.alloc (Obj.cells #[.string qx, .string qy] 55) := ⟨_, rfl⟩
      have b3 : Below w2.heap.size w2 W3 := by rw [hW3]; exact Gr.below_new _ _
      have e3 : W3.cell? ⟨0, 0, none⟩ = some (.iface 250 (.pointer (some ea))) := hE2.below b3 (by omega)
      have x3 : Blk W3 w2.heap.size #[.string qx, .string qy] 55 := by rw [hW3]; exact Gr.Blk.new0
      have HB3 : Hid (RdBox W3 b s qe) := Gr.Blk.below hb2 b3
      have HK3 := hide (hk3.trans (Kept.of_below b3))
      have HO3 : Hid (W3.ownsRow w.heap.size 55 2 u3 L.length (Tr.pairsV L)) := Gr.own_below (hk2.own (unhide HO) (fun g hg e => by have := ((unhide HO).lt g hg).1; omega)) b3
      have q0 : W3.cell? ⟨w2.heap.size, 0, none⟩ = some (.string qx) := x3.cell 0 _ rfl
      have q1 : W3.cell? ⟨w2.heap.size, 1, none⟩ = some (.string qy) := x3.cell 1 _ rfl
      have hzB := b3.size
      rw [hW3] at e3
      clear hb2 hk2 hk3 b3 HO HK hk hE2 NXN x3
      go_wp2_with fail
      rw [← hW3]
      clear hW3 e3
      refine (is_nil ea W3).mono ?_
      rintro e w4 ⟨rfl, rfl⟩
      have hown := unhide HO3
      have hL9 : L.length ≤ 1048576 := by omega
      go_wp2_with (at_builtin; refine wpList_append_own _ rfl _ _ 26 rfl w.heap.size 55 i0 (.agg #[.string ⟨#[]⟩, .string ⟨#[]⟩]) 2 32 Tryz.underlying26 hi hz0 hz1 hz2 rfl (by decide) _ _ _ rfl (hown.alloc _) ⟨w4.heap.size, 0, none⟩ 1 1 [.string qx, .string qy] rfl rfl (cy_news _ _ _ _) (cy_one _ _) ?_ ?_ ?_ ?_)
      · unfold maxLen; omega
      · omega
      · simp; omega
      intro v' w7 ho7 hg7 _
      rw [← pairs_snoc] at ho7
      have HO7 : Hid (w7.ownsRow w.heap.size 55 2 v' (L ++ [(qx, qy)]).length (Tr.pairsV (L ++ [(qx, qy)]))) := by rw [List.length_append]; exact ho7
      have hb6 := Gr.below_new w4 (Obj.cells #[Value.string qx, Value.string qy] 55)
      have hlow : ∀ k, u3.ownBlock = some k → w.heap.size ≤ k := fun k hk => (hown.lt k hk).1
      have HB7 : Hid (RdBox w7 b s qe) := Gr.Blk.grown (Gr.Blk.below (unhide HB3) hb6) hg7 (fun e => by have := hlow b e.symm; omega)
      have HK7 : Hid (Kept (fun k => k = b) w w7) := by
        have h1 := (unhide HK3).trans (Kept.of_below hb6)
        refine ⟨(Kept.of_grown hg7).1.trans h1.1, (Kept.of_grown hg7).2.1.trans h1.2.1, (Kept.of_grown hg7).2.2.1.trans h1.2.2.1, Nat.le_trans h1.2.2.2.1 (Kept.of_grown hg7).2.2.2.1, fun i hi hS => ?_⟩
        rw [(Kept.of_grown hg7).2.2.2.2 i (Nat.lt_of_lt_of_le hi h1.2.2.2.1) (fun e => by have := hlow i e; omega), h1.2.2.2.2 i hi hS]
      clear hown ho7 hg7 hb6 hlow HB3 HK3 HO3 q0 q1
      go_wp2_with fail
      go_roundg g
      case measure => omega
      case rel => exact ⟨L ++ [(qx, qy)], qe, hf2, ha2, by rw [List.length_append]; simp; omega, HR2, HO7, HB7, HK7⟩
end Cy
end Go.Proofs.YtihnaddfpmjpaaaGreatDoor
