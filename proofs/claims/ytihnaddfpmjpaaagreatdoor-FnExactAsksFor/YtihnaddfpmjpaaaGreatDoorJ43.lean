/-
 TrOpen, GrKPair, GrPairM, GrPairH.
-/
import Derived.Test.YtihnaddfpmjpaaaGreatDoorJ5
import Derived.Lib.SmallJoins
import Derived.SliceStrings
import Derived.Deep.SlicePairs
import Derived.ShutString
import Derived.Test.YtihnaddfpmjpaaaGreatDoorJ13
import Derived.Test.YtihnaddfpmjpaaaGreatDoorJ18
namespace Go.Proofs.YtihnaddfpmjpaaaGreatDoor
namespace Tr
open Go.ChangeShapes Go.WideShapes Go.ChangeAt Go.RowKit
theorem cells_pair : Tryz.prog.cellsOf 52 = 2 := by kernel_rfl
theorem cells_str : Tryz.prog.cellsOf 9 = 1 := by kernel_rfl
theorem pairs_open {H : Type} {enc : TypeId × Value → H} {W : World} {spare : Nat → Bool} {held : Bool} {fuel : Nat} {v : Value} {x : DataW H × List MemPlace} (hsp : ∀ b, spare b = true)
    (h : DataW.trod enc Tryz.prog W 0 spare held fuel 22 [v] = some x) :
    ∃ a n c Q, v = .slice a n c ∧ PairsAt W a n W.heap.size Q ∧ Q.length ≤ 9223372036854775807 ∧ ∀ q ∈ Q, q.1.size ≤ 9223372036854775807 ∧ q.2.size ≤ 9223372036854775807 := by
  rcases Deep.open_slice_pairs Tryz.underlying22 Tryz.underlying52 cells_pair rfl rfl cells_str cells_str h with ⟨hcs, _⟩ | ⟨a, len, cap, m, n, V0, V1, D0, D1, P0, P1, hcs, _, hl, hm, hmm, _, hcell⟩
  · simp at hcs
    exact ⟨none, 0, 0, [], hcs, ⟨rfl, fun j hj => by simp at hj⟩, by simp, by simp⟩
  · simp at hcs
    rw [if_pos (hsp _)] at hmm
    subst hmm
    have hv : ∀ i, i < m → ∃ (y s : ByteArray), V0 i = .string y ∧ V1 i = .string s ∧ y.size ≤ 9223372036854775807 ∧ s.size ≤ 9223372036854775807 := by
      intro i hi
      obtain ⟨_, _, h0, h1⟩ := hcell i hi
      obtain ⟨y, e0, _, hy⟩ := DataW.trod_string Tryz.underlying9 h0
      obtain ⟨s, e1, _, hs⟩ := DataW.trod_string Tryz.underlying9 h1
      simp at e0 e1
      refine ⟨y, s, e0, e1, ?_⟩
      unfold maxLen at hs hy
      omega
    let X : Nat → ByteArray × ByteArray := fun i => if hi : i < m then ((hv i hi).choose, (hv i hi).choose_spec.choose) else (⟨#[]⟩, ⟨#[]⟩)
    have hX : ∀ i, i < m → V0 i = .string (X i).1 ∧ V1 i = .string (X i).2 ∧ (X i).1.size ≤ 9223372036854775807 ∧ (X i).2.size ≤ 9223372036854775807 := by
      intro i hi
      have hsp2 := (hv i hi).choose_spec.choose_spec
      simp only [X, hi, dif_pos]
      exact hsp2
    refine ⟨some a, len, m, (List.range len).map X, hcs, ⟨by simp, fun j hj => ?_⟩, by unfold maxLen at hm; simp; omega, ?_⟩
    · have hj1 : j < len := by simpa using hj
      obtain ⟨b, off, spot⟩ := a
      have hspot : spot = none := by simpa [Addr.add] using World.cell?_spot (hcell 0 (by omega)).1
      subst hspot
      obtain ⟨h0, h1, _, _⟩ := hcell j (by omega)
      obtain ⟨e0, e1, _⟩ := hX j (by omega)
      rw [Addr.add_lit, e0] at h0
      rw [Addr.add_lit, e1] at h1
      refine ⟨b, off, rfl, by simpa using World.block_lt_of_cell? W _ h0, ?_, ?_⟩
      · rw [h0]; simp
      · rw [← Nat.add_assoc] at h1
        rw [h1]; simp
    · intro q hq
      obtain ⟨i, hi, rfl⟩ := List.mem_map.1 hq
      exact (hX i (by simp at hi; omega)).2.2
end Tr
end Go.Proofs.YtihnaddfpmjpaaaGreatDoor
namespace Go.Proofs.YtihnaddfpmjpaaaGreatDoor
namespace Gr
open Go.ChangeShapes Go.WideShapes Go.ChangeAt Go.RowKit
def PaIn (Q : List (ByteArray × ByteArray)) : Prop := ∀ q ∈ Q, q.1.size ≤ 9223372036854775807 ∧ q.2.size ≤ 9223372036854775807
def PaAt (w : World) (v : Value) (B : Nat) (Q : List (ByteArray × ByteArray)) : Prop := ∃ a c, v = .slice a Q.length c ∧ Tr.PairsAt w a Q.length B Q ∧ PaIn Q ∧ Q.length ≤ 9223372036854775807
def PaOwn (w : World) (B : Nat) (v : Value) (Q : List (ByteArray × ByteArray)) : Prop := w.ownsRow B 55 2 v Q.length (Tr.pairsV Q) ∧ PaIn Q ∧ Q.length ≤ 9223372036854775807
def PaBlk (v : Value) (g : Nat) : Prop := v.ownBlock = some g
theorem PaAt.shape {w : World} {v : Value} {B : Nat} {Q : List (ByteArray × ByteArray)} (h : PaAt w v B Q) : ∃ a c, v = .slice a Q.length c := by
  obtain ⟨a, c, rfl, _⟩ := h
  exact ⟨a, c, rfl⟩
theorem PaAt.below {w w' : World} {v : Value} {B C : Nat} {Q : List (ByteArray × ByteArray)} (h : PaAt w v B Q) (hb : Below C w w') (hC : B ≤ C) : PaAt w' v B Q := by
  obtain ⟨a, c, rfl, hQ, hI⟩ := h
  exact ⟨a, c, rfl, hQ.below hb hC, hI⟩
theorem PaAt.mono {w : World} {v : Value} {B C : Nat} {Q : List (ByteArray × ByteArray)} (h : PaAt w v B Q) (hC : B ≤ C) : PaAt w v C Q := by
  obtain ⟨a, c, rfl, hQ, hI⟩ := h
  exact ⟨a, c, rfl, hQ.mono hC, hI⟩
theorem PaOwn.at {w : World} {B : Nat} {v : Value} {Q : List (ByteArray × ByteArray)} (h : PaOwn w B v Q) : PaAt w v w.heap.size Q := by
  obtain ⟨ho, hI⟩ := h
  obtain ⟨a, c, rfl, hQ⟩ := Tr.PairsAt.of_own ho
  exact ⟨a, c, rfl, hQ, hI⟩
theorem PaOwn.below {w w' : World} {B : Nat} {v : Value} {Q : List (ByteArray × ByteArray)} (h : PaOwn w B v Q) (hb : Below w.heap.size w w') : PaOwn w' B v Q := ⟨own_below h.1 hb, h.2⟩
theorem PaOwn.lower {w : World} {B C : Nat} {v : Value} {Q : List (ByteArray × ByteArray)} (h : PaOwn w B v Q) (hC : C ≤ B) : PaOwn w C v Q := ⟨own_lower hC h.1, h.2⟩
theorem PaOwn.blk {w : World} {B : Nat} {v : Value} {Q : List (ByteArray × ByteArray)} (h : PaOwn w B v Q) : ∀ g, PaBlk v g → B ≤ g ∧ g < w.heap.size := fun g hg => World.ownsRow.lt h.1 g hg
theorem PaOwn.kept {S : Nat → Prop} {w w' : World} {B : Nat} {v : Value} {Q : List (ByteArray × ByteArray)} (h : PaOwn w B v Q) (hk : Kept S w w') (hS : ∀ g, PaBlk v g → ¬ S g) : PaOwn w' B v Q := ⟨hk.own h.1 hS, h.2⟩
def pasize (Q : List (ByteArray × ByteArray)) : Nat := min (Q.length + Tr.totP Q) 9223372036854775807
theorem pasize_le {Q : List (ByteArray × ByteArray)} (h : pasize Q ≤ 1048576) : Q.length ≤ 1048576 ∧ Tr.totP Q ≤ 1048576 := by
  unfold pasize at h
  omega
theorem szPairS_gen (v : Value) (B : Nat) (Q : List (ByteArray × ByteArray)) (left : Int) (h0 : 0 ≤ left) (h1 : left ≤ 1048576) (_hn : pasize Q ≤ 9223372036854775807) (w : World) (hv : PaAt w v B Q) :
    Calls Tryz.prog 9 #[v, .int .i64 left] w fun e w' => (∃ x : Int, e = .returned (.int .i64 x) ∧ x ≤ left ∧ (0 ≤ x → (pasize Q : Int) + x ≤ left)) ∧ Below w.heap.size w w' := by
  obtain ⟨a, c, rfl, hQ, hI, hl⟩ := hv
  have hQ2 : Tr.PairsAt w a Q.length w.heap.size Q := by
    refine ⟨hQ.1, fun j hj => ?_⟩
    obtain ⟨b, off, e, _, c0, c1⟩ := hQ.2 j hj
    exact ⟨b, off, e, World.block_lt_of_cell? w _ c0, c0, c1⟩
  refine (Tr.szPairs_any a Q.length c w.heap.size Q left h0 h1 hl hI w (Nat.le_refl _) hQ2).mono ?_
  rintro e w' ⟨⟨x, rfl, hx, _, hy⟩, hb⟩
  refine ⟨⟨x, rfl, hx, fun h => ?_⟩, hb⟩
  have := hy h
  unfold pasize
  omega
theorem toPairS_gen (v : Value) (B : Nat) (Q : List (ByteArray × ByteArray)) (h1 : pasize Q ≤ 1048576) (w : World) (hB : B ≤ w.heap.size) (hv : PaAt w v B Q) :
    Calls Tryz.prog 11 #[v] w fun e w' => (∃ d, e = .returned d ∧ PaOwn w' w.heap.size d Q) ∧ Below w.heap.size w w' := by
  obtain ⟨a, c, rfl, hQ, hI⟩ := hv
  refine (Tr.toPairs_any a Q.length c B Q (pasize_le h1).1 w hB hQ).mono ?_
  rintro e w' ⟨⟨d, rfl, ho⟩, hb⟩
  exact ⟨⟨d, rfl, ho, hI⟩, hb⟩
theorem eqPairS_gen (v u : Value) (B B' : Nat) (Q : List (ByteArray × ByteArray)) (h1 : pasize Q ≤ 1048576) (w : World) (hB : B ≤ w.heap.size) (hB' : B' ≤ w.heap.size) (hv : PaAt w v B Q) (hu : PaAt w u B' Q) :
    Calls Tryz.prog 14 #[v, u] w fun e w' => e = .returned (.bool true) ∧ Below w.heap.size w w' := by
  obtain ⟨a, c, rfl, hQ, _⟩ := hv
  obtain ⟨a', c', rfl, hQ', _⟩ := hu
  exact Tr.eqPairs_same a a' Q.length c c' B B' Q (pasize_le h1).1 w hB hB' hQ hQ'
set_option maxRecDepth 100000 in
theorem pairs_in {H : Type} {enc : TypeId × Value → H} {W : World} {r : Reach} {b0 : Nat} {v : Value} {d : DataW H} {p : List MemPlace}
    (hv : Value.okWide Tryz.prog W r b0 22 v) (h : DataW.Trod enc Tryz.prog W 0 (fun _ => true) true 22 v d p) : ∃ Q, PaAt W v W.heap.size Q ∧ pasize Q ≤ 9223372036854775807 := by
  obtain ⟨a, n, c, rfl⟩ := okWide_slice Tryz.underlying22 hv
  obtain ⟨fuel, hf⟩ := h
  obtain ⟨a', n', c', Q, hcs, hQ, hl, hI⟩ := Tr.pairs_open (fun _ => rfl) hf
  simp at hcs
  obtain ⟨rfl, rfl, rfl⟩ := hcs
  obtain rfl : n = Q.length := hQ.1.symm
  exact ⟨Q, ⟨a, c, rfl, hQ, hI, hl⟩, by unfold pasize; omega⟩
end Gr
end Go.Proofs.YtihnaddfpmjpaaaGreatDoor
namespace Go.Proofs.YtihnaddfpmjpaaaGreatDoor
namespace Gr
open Go.RowKit
def marksP (k n : Nat) : List (ByteArray × ByteArray) := (List.range n).map fun i => (mtx (k + i * 2), mtx (k + i * 2 + 1))
theorem marksP_length (k n : Nat) : (marksP k n).length = n := by simp [marksP]
theorem marksP_at (k n i : Nat) (h : i < (marksP k n).length) : (marksP k n)[i] = (mtx (k + i * 2), mtx (k + i * 2 + 1)) := by simp [marksP]
theorem mkT_size : ∀ (f k : Nat) (out : ByteArray), (mkT f k out).size ≤ out.size + f
  | 0, k, out => by simp [mkT]
  | f + 1, k, out => by
    rw [mkT]
    split
    · omega
    · have h := mkT_size f (k / 10) (fig1 k ++ out)
      rw [ByteArray.size_append] at h
      have : (fig1 k).size = 1 := rfl
      omega
theorem mtx_size (k : Nat) : (mtx k).size ≤ 21 := by
  unfold mtx
  split
  · show 2 ≤ 21; omega
  · unfold markT
    rw [ByteArray.size_append]
    have h := mkT_size 20 k ⟨#[]⟩
    have h0 : (ByteArray.mk #[]).size = 0 := rfl
    have h1 : (ByteArray.mk #[109]).size = 1 := rfl
    omega
theorem marksP_in (k n : Nat) : PaIn (marksP k n) := by
  intro q hq
  obtain ⟨i, _, rfl⟩ := List.mem_map.1 hq
  have h1 := mtx_size (k + i * 2)
  have h2 := mtx_size (k + i * 2 + 1)
  exact ⟨by simp only; omega, by simp only; omega⟩
set_option maxRecDepth 100000 in
set_option maxHeartbeats 2000000 in
theorem markPairS_gen (v : Value) (B k : Nat) (Q : List (ByteArray × ByteArray)) (h1 : k + pasize Q * 2 ≤ 100000000) (w : World) (ho : PaOwn w B v Q) :
    Calls Tryz.prog 15 #[v, .int .i64 (k : Int)] w fun e w' => e = .returned (.int .i64 ((k + Q.length * 2 : Nat) : Int)) ∧ PaOwn w' B v (marksP k Q.length) ∧ Kept (PaBlk v) w w' := by
  have MT := hide (fun y (hy : y ≤ 1000000000) w => mark_text y hy w)
  have h1' : k + Q.length * 2 ≤ 100000000 := by have := ho.2.2; unfold pasize at h1; omega
  have hsh := (PaOwn.at ho).shape
  obtain ⟨n, hn⟩ : ∃ n, Q.length = n := ⟨_, rfl⟩
  have HKL := hide hn
  have ho' : w.ownsRow B 55 2 v n (Tr.pairsV Q) := by rw [← hn]; exact ho.1
  have hmx := ho.2.2
  rw [hn] at hsh h1' hmx ⊢
  obtain ⟨A, cap, rfl⟩ := hsh
  have HO : Hid (w.ownsRow B 55 2 (.slice A n cap) n (Tr.pairsV (over (marksP k n) Q 0))) := by show World.ownsRow _ _ _ _ _ _ _; rw [over_zero]; exact ho'
  clear ho ho' hn h1
  go_enter Tryz.func15, Tryz.ntmps15
  go_wp2_with fail
  go_loopw [1, 5] (fun a1 a5 wr => ∃ j y : Nat, a5 = .int .i64 j ∧ j ≤ n ∧ y = k + j * 2 ∧ a1 = .int .i64 (y : Int) ∧ wr.ownsRow B 55 2 (.slice A n cap) n (Tr.pairsV (over (marksP k n) Q j)) ∧ Kept (fun g => (Value.slice A n cap).ownBlock = some g) w wr) (fun _ a5 _ => n - (intOf a5).toNat)
  case atStart => exact ⟨0, k, rfl, Nat.zero_le _, rfl, rfl, unhide HO, Kept.refl _ _⟩
  case round =>
    obtain ⟨j, y, rfl, hj, hy, rfl, hown, hkp⟩ := hrel
    have HY := hide hy
    have hyl : y ≤ 100000000 := by omega
    clear hy
    by_cases hlt : j < n
    · obtain ⟨g, cap', hA, hBg, hgl⟩ := hown.form (by omega)
      simp at hA
      obtain ⟨rfl, rfl⟩ := hA
      have hx1 : (j : Int) < (n : Int) := by omega
      have hKl := unhide HKL
      have MY := hide (unhide MT y (by omega))
      have MZ : Hid (∀ w1, Calls Tryz.prog 43 #[.int .i64 ((y : Int) + 1)] w1 fun e w' => e = .returned (.string (mtx (y + 1))) ∧ Below w1.heap.size w1 w') := fun w1 => by have h := unhide MT (y + 1) (by omega) w1; rw [Int.natCast_add] at h; exact h
      have hys : (mtx y, mtx (y + 1)) = (marksP k n)[j]'(by rw [marksP_length]; exact hlt) := by rw [marksP_at]; rw [unhide HY]
      have hov := over_set (marksP k n) Q j (by rw [marksP_length]; omega) (by omega)
      rw [← hys] at hov
      have HOV := hide hov
      have hlo : (over (marksP k n) Q j).length = n := by rw [over_length _ _ _ (by rw [marksP_length]; omega) (by omega)]; omega
      have HLO := hide hlo
      have HOW := hide hown
      have HKP := hide hkp
      generalize mtx y = x at MY HOV
      generalize mtx (y + 1) = x' at MZ HOV
      clear hys hov hlo hown hkp hKl
      go_wp2_with fail
      refine (unhide MY _).mono ?_
      rintro e w2 ⟨rfl, hb2⟩
      have hown := own_below (unhide HOW) hb2
      have hjl : j < (over (marksP k n) Q j).length := by have := unhide HLO; omega
      have hlen2 := Tr.pairsV_length (over (marksP k n) Q j)
      have hat := Tr.pairsV_at _ j hjl
      have hce := hown.cellAt (j * 2) (by have := unhide HLO; omega)
      rw [hat.1] at hce
      have hfz := hown.frozenAt (j * 2)
      have hst := (hown.stored (j * 2) (.string x)).1
      have HST := hide hst
      have HK2 := hide (((unhide HKP).trans (Kept.of_below hb2)).trans (Kept.set w2 g (j * 2) (.string x) rfl))
      obtain ⟨zz, hzz⟩ : ∃ u, u = (over (marksP k n) Q j)[j].2 := ⟨_, rfl⟩
      have HAT2 : Hid ((Tr.pairsV (over (marksP k n) Q j))[j * 2 + 1]? = some (.string zz)) := by rw [hzz]; exact hat.2
      clear hzz
      have HJL := hide hjl
      have HL2 := hide hlen2
      generalize (over (marksP k n) Q j)[j].1 = z at hce
      clear hst hown hb2 hat hjl hlen2
      go_wp2_with fail
      refine (unhide MZ _).mono ?_
      rintro e w3 ⟨rfl, hb3⟩
      have hown := own_below (unhide HST) hb3
      have hce3 := hown.cellAt (j * 2 + 1) (by have := unhide HLO; have := unhide HL2; simp; omega)
      rw [List.getElem?_set_ne (by omega), unhide HAT2] at hce3
      have hfz3 := hown.frozenAt (j * 2 + 1)
      have hst3 := (hown.stored (j * 2 + 1) (.string x')).1
      rw [Tr.pairsV_set _ j (unhide HJL), unhide HOV] at hst3
      have HST3 := hide hst3
      have HK3 := hide (((unhide HK2).trans (Kept.of_below hb3)).trans (Kept.set w3 g (j * 2 + 1) (.string x') rfl))
      clear hst3 hown hb3 hce hfz
      go_wp2_with fail
      exact ⟨⟨j + 1, y + 1 + 1, by go_num, by omega, by have := unhide HY; omega, by go_num, unhide HST3, unhide HK3⟩, by simp [intOf]; omega⟩
    · obtain rfl : j = n := by omega
      have HOW := hide hown
      clear hown
      go_wp2
      go_ret
      refine ⟨by rw [← unhide HY]; rfl, ?_, hkp⟩
      have h := unhide HOW
      have e := over_all (marksP k j) Q (by rw [marksP_length, unhide HKL])
      rw [unhide HKL] at e
      rw [e] at h
      refine ⟨?_, marksP_in k j, by rw [marksP_length]; exact hmx⟩
      rw [marksP_length]
      exact h
end Gr
end Go.Proofs.YtihnaddfpmjpaaaGreatDoor
