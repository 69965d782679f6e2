/-
 GrBlk, GrBlkS, GrGroup, GrCPick.
-/
import Derived.Test.YthbhdfeafbineaaGreatJ2
import Derived.Test.YthbhdfeafbineaaGreatJ5
import Derived.Test.YthbhdfeafbineaaGreatJ6
import Derived.Deep.AppendLies
import Derived.Deep.RegionLaw
import Derived.Test.YthbhdfeafbineaaGreatJ1
namespace Go.Proofs.YthbhdfeafbineaaGreat
namespace Gr
open Go.RowKit
def Blk (W : World) (g : Nat) (C : Array Value) (t : TypeId) : Prop := W.heap[g]? = some (.cells C t (0, 0))
theorem Blk.lt {W : World} {g : Nat} {C : Array Value} {t : TypeId} (h : Blk W g C t) : g < W.heap.size := by
  unfold Blk at h
  rcases Nat.lt_or_ge g W.heap.size with h1 | h1
  · exact h1
  · rw [Array.getElem?_eq_none h1] at h; cases h
theorem Blk.new {W : World} {g : Nat} {C : Array Value} {t : TypeId} (h : g = W.heap.size) : Blk (W.alloc (.cells C t)) g C t := by
  subst h
  exact heap_alloc_new W _
theorem Blk.new0 {W : World} {C : Array Value} {t : TypeId} : Blk (W.alloc (.cells C t)) W.heap.size C t := heap_alloc_new W _
theorem Blk.new1 {W : World} {o : Obj} {C : Array Value} {t : TypeId} : Blk ((W.alloc o).alloc (.cells C t)) (W.heap.size + 1) C t := Blk.new (by show _ = (W.heap.push o).size; simp)
theorem Blk.new2 {W : World} {o o' : Obj} {C : Array Value} {t : TypeId} : Blk (((W.alloc o).alloc o').alloc (.cells C t)) (W.heap.size + 1 + 1) C t := Blk.new (by show _ = ((W.heap.push o).push o').size; simp)
theorem Blk.alloc {W : World} {g : Nat} {C : Array Value} {t : TypeId} {o : Obj} (h : Blk W g C t) : Blk (W.alloc o) g C t :=
  ((below_new W o).block g h.lt).trans h
theorem alloc_size (W : World) (o : Obj) : (W.alloc o).heap.size = W.heap.size + 1 := by
  show (W.heap.push o).size = _
  simp
theorem Blk.drew {W : World} {g : Nat} {C : Array Value} {t : TypeId} (h : Blk W g C t) : Blk W.drew g C t := h
theorem Blk.below {W W' : World} {g : Nat} {C : Array Value} {t : TypeId} (h : Blk W g C t) (hb : Below W.heap.size W W') : Blk W' g C t := (hb.block g h.lt).trans h
theorem Blk.grown {W W' : World} {g : Nat} {C : Array Value} {t : TypeId} {row : Option Nat} (h : Blk W g C t) (hg : W.grownBy W' row) (hne : some g ≠ row) : Blk W' g C t := (hg.block g h.lt hne).trans h
theorem Blk.cell {W : World} {g : Nat} {C : Array Value} {t : TypeId} (h : Blk W g C t) (k : Nat) (v : Value) (hv : C[k]? = some v) : W.cell? ⟨g, k, none⟩ = some v := by
  rw [cell_of_row W g k C t (0, 0) h]
  exact hv
theorem Blk.froz {W : World} {g : Nat} {C : Array Value} {t : TypeId} (h : Blk W g C t) (k : Nat) : W.frozen? ⟨g, k, none⟩ = false := by
  unfold World.frozen?
  simp only []
  unfold Blk at h
  rw [h]
  simp
theorem Blk.apart {W : World} {g : Nat} {C : Array Value} {t e : TypeId} {base size n : Nat} {v : Value} {xs : List Value} (h : Blk W g C t) (ho : W.ownsRow base e size v n xs) (hne : t ≠ e) : some g ≠ v.ownBlock := by
  rcases ho.2 with ⟨rfl, _⟩ | ⟨g', cap, cur, rfl, _, hg, _⟩
  · simp [Value.ownBlock]
  · intro e'
    have e2 : g = g' := by simpa [Value.ownBlock] using e'
    subst e2
    unfold Blk at h
    rw [h] at hg
    simp at hg
    exact hne hg.2
def Fresh (wr W : World) : Prop := Below wr.heap.size wr W
theorem Fresh.refl (w : World) : Fresh w w := Below.refl _ _
theorem Fresh.drew {w W : World} (h : Fresh w W) : Fresh w W.drew := Below.drew h
theorem Fresh.alloc {w W : World} {o : Obj} (h : Fresh w W) : Fresh w (W.alloc o) := Below.alloc h h.size o
theorem Fresh.below {w W W' : World} (h : Fresh w W) (hb : Below W.heap.size W W') : Fresh w W' := Below.trans h (hb.mono h.size)
theorem Fresh.grown {w W W' : World} {row : Option Nat} (h : Fresh w W) (hg : W.grownBy W' row) (hr : ∀ k, row = some k → w.heap.size ≤ k) : Fresh w W' :=
  Below.grown h hg h.size hr
theorem Fresh.size {w W : World} (h : Fresh w W) : w.heap.size ≤ W.heap.size := Below.size h
theorem Fresh.set {w W : World} {g k : Nat} {x : Value} (h : Fresh w W) (hg : w.heap.size ≤ g) : Fresh w (W.setCell ⟨g, k, none⟩ x) := Below.setCell (p := ⟨g, k, none⟩) h hg x
theorem Blk.set {W : World} {g : Nat} {C : Array Value} {t : TypeId} (h : Blk W g C t) (k : Nat) (x : Value) : Blk (W.setCell ⟨g, k, none⟩ x) g (C.setIfInBounds k x) t := by
  unfold Blk at *
  exact heap_setCell_same W g k _ _ x h
theorem Blk.kept {S : Nat → Prop} {w w' : World} {g : Nat} {C : Array Value} {t : TypeId} (h : Blk w g C t) (hk : Kept S w w') (hS : ¬ S g) : Blk w' g C t := by
  unfold Blk; rw [hk.2.2.2.2 g h.lt hS]; exact h
theorem Blk.set_other {W : World} {g g' : Nat} {C : Array Value} {t : TypeId} (h : Blk W g C t) (hne : g ≠ g') (k : Nat) (x : Value) : Blk (W.setCell ⟨g', k, none⟩ x) g C t :=
  h.kept (S := fun i => i = g') (Kept.set _ _ _ _ rfl) hne
end Gr
end Go.Proofs.YthbhdfeafbineaaGreat
namespace Go.Proofs.YthbhdfeafbineaaGreat
namespace Gr
open Go.ChangeShapes Go.WideShapes Go.ChangeAt Go.RowKit
structure GrpI where
  M : List Int
  Z : Int
def groupsAt (w : World) (a : Option Addr) (len B : Nat) (G : List GrpI) : Prop :=
  G.length = len ∧ ∀ j (h : j < G.length), ∃ b off a' c', a = some ⟨b, off, none⟩ ∧ b < B ∧ w.cell? ⟨b, off + j * 2, none⟩ = some (.slice a' G[j].M.length c') ∧ w.cell? ⟨b, off + j * 2 + 1, none⟩ = some (.int .i64 G[j].Z) ∧ IntsAt w a' G[j].M.length B G[j].M
theorem groupsAt.below {w w' : World} {a : Option Addr} {len B C : Nat} {G : List GrpI} (h : groupsAt w a len B G) (hb : Below C w w') (hC : B ≤ C) : groupsAt w' a len B G := by
  refine ⟨h.1, fun j hj => ?_⟩
  obtain ⟨b, off, a', c', e, hbB, c0, c1, hI⟩ := h.2 j hj
  exact ⟨b, off, a', c', e, hbB, (by rw [hb.cell (p := ⟨b, off + j * 2, none⟩) (by simp; omega)]; exact c0), (by rw [hb.cell (p := ⟨b, off + j * 2 + 1, none⟩) (by simp; omega)]; exact c1), hI.below hb hC⟩
theorem groupsAt.mono {w : World} {a : Option Addr} {len B C : Nat} {G : List GrpI} (h : groupsAt w a len B G) (hC : B ≤ C) : groupsAt w a len C G := by
  refine ⟨h.1, fun j hj => ?_⟩
  obtain ⟨b, off, a', c', e, hbB, c0, c1, hI⟩ := h.2 j hj
  refine ⟨b, off, a', c', e, by omega, c0, c1, ⟨hI.1, fun k hk => ?_⟩⟩
  obtain ⟨b2, off2, e2, hb2, hc2⟩ := hI.2 k hk
  exact ⟨b2, off2, e2, by omega, hc2⟩
def PrIn (Y : List Int) (G : List GrpI) : Prop := Y.length ≤ 9223372036854775807 ∧ G.length ≤ 9223372036854775807 ∧ ∀ q ∈ G, q.M.length ≤ 9223372036854775807
def PrAt (w : World) (v : Value) (B : Nat) (Y : List Int) (G : List GrpI) : Prop := ∃ a n c a' n' c', v = .agg #[.slice a n c, .slice a' n' c'] ∧ IntsAt w a n B Y ∧ groupsAt w a' n' B G ∧ PrIn Y G
theorem PrAt.below {w w' : World} {v : Value} {B C : Nat} {Y : List Int} {G : List GrpI} (h : PrAt w v B Y G) (hb : Below C w w') (hC : B ≤ C) : PrAt w' v B Y G := by
  obtain ⟨a, n, c, a', n', c', rfl, hY, hG, hI⟩ := h
  exact ⟨a, n, c, a', n', c', rfl, hY.below hb hC, hG.below hb hC, hI⟩
theorem PrAt.mono {w : World} {v : Value} {B C : Nat} {Y : List Int} {G : List GrpI} (h : PrAt w v B Y G) (hC : B ≤ C) : PrAt w v C Y G := by
  obtain ⟨a, n, c, a', n', c', rfl, hY, hG, hI⟩ := h
  refine ⟨a, n, c, a', n', c', rfl, ⟨hY.1, fun k hk => ?_⟩, hG.mono hC, hI⟩
  obtain ⟨b2, off2, e2, hb2, hc2⟩ := hY.2 k hk
  exact ⟨b2, off2, e2, by omega, hc2⟩
def gbulk : List GrpI → Nat
  | [] => 0
  | x :: r => x.M.length + gbulk r
end Gr
end Go.Proofs.YthbhdfeafbineaaGreat
namespace Go.Proofs.YthbhdfeafbineaaGreat
namespace Gr
open Go.RowKit
theorem CC.alloc {a : Option Addr} {len cap g B : Nat} {w : World} (h : CC a len cap g B w) (hB : B ≤ g) (o : Obj) : CC a len cap g B (w.alloc o) := h.below (below_new _ _) hB
theorem CC.set {a : Option Addr} {len cap g B k j : Nat} {w : World} (h : CC a len cap g B w) (hB : B ≤ g) (hk : g < k) (v : Value) : CC a len cap g B (w.setCell ⟨k, j, none⟩ v) :=
  h.kept (S := fun i => i = k) (Kept.set _ _ _ _ rfl) hB (fun i hi => by omega)
set_option maxRecDepth 100000 in
theorem pick_list (a : Option Addr) (len cap g B b : Nat) (C : Array Value) (L : List Int) (hL : 0 < L.length) (hL2 : L.length ≤ 200) (hC : ∀ j (h : j < L.length), C[j]? = some (.int .i64 L[j])) (hl : len ≤ 1048576) (hB : B ≤ g) (hb : b ≠ g) (w : World) (h : CC a len cap g B w) (hx : Blk w b C 3) :
    Calls Tryz.prog 35 #[.pointer (some ⟨g, 0, none⟩), .slice (some ⟨b, 0, none⟩) L.length L.length] w fun e w' => (∃ x, e = .returned (.int .i64 x) ∧ x ∈ L) ∧ CC a len cap g B w' ∧ Kept (fun k => k = g) w w' := by
  have H := hide (below_cc a len cap g B (L.length : Int) hl hB (by omega) w h)
  have HX := hide hx
  have HC := hide hC
  obtain ⟨n, hn⟩ : ∃ n, n = L.length := ⟨_, rfl⟩
  rw [← hn] at H hL hL2 ⊢
  have HN := hide hn
  clear h hx hC hn
  go_enter Tryz.func35, Tryz.ntmps35
  go_wp2_with fail
  refine (unhide H).mono ?_
  rintro e w1 ⟨⟨x, rfl, hx0, hx1⟩, hc1, hg1⟩
  obtain ⟨k, rfl⟩ := Int.eq_ofNat_of_zero_le hx0
  have hkL : k < L.length := by have := unhide HN; omega
  have c1 : w1.cell? ⟨b, k, none⟩ = some (.int .i64 L[k]) := ((unhide HX).kept hg1 hb).cell k _ (unhide HC k hkL)
  have HM : Hid (L[k] ∈ L) := List.getElem_mem hkL
  generalize L[k] = y at c1 HM
  have HC1 := hide hc1
  have HG := hide hg1
  clear hc1 hg1
  go_wp2
  go_ret
  exact ⟨⟨y, rfl, unhide HM⟩, unhide HC1, unhide HG⟩
theorem byte_cc (a : Option Addr) (len cap g B : Nat) (hl : len ≤ 1048576) (hB : B ≤ g) (w : World) (h : CC a len cap g B w) :
    Calls Tryz.prog 59 #[.pointer (some ⟨g, 0, none⟩)] w fun e w' => (∃ x : Nat, e = .returned (.int .i64 (x : Int)) ∧ x ≤ 255) ∧ CC a len cap g B w' ∧ Kept (fun k => k = g) w w' := by
  refine (byte_any a len cap g B hl hB w h.1 h.2).mono ?_
  rintro e w' ⟨⟨x, rfl, hx0, hx1⟩, hc, hg⟩
  obtain ⟨k, rfl⟩ := Int.eq_ofNat_of_zero_le hx0
  exact ⟨⟨k, rfl, by omega⟩, ⟨hc, h.2.grown hB hg⟩, grownK hg⟩
def TxR (a : Option Addr) (len cap g B : Nat) (w wr : World) (v : Value) (i : Nat) : Prop := ∃ l : List UInt8, l.length = i ∧ wr.ownsRow w.heap.size 5 1 v i (bytesV l) ∧ CC a len cap g B wr ∧ Kept (fun k => k = g) w wr
set_option maxRecDepth 100000 in
set_option maxHeartbeats 1000000 in
theorem text_cc (a : Option Addr) (len cap g B n : Nat) (hl : len ≤ 1048576) (hB : B ≤ g) (hn : n ≤ 5000) (w : World) (h : CC a len cap g B w) :
    Calls Tryz.prog 34 #[.pointer (some ⟨g, 0, none⟩), .int .i64 (n : Int)] w fun e w' => (∃ s : ByteArray, e = .returned (.string s) ∧ s.size = n) ∧ CC a len cap g B w' ∧ Kept (fun k => k = g) w w' := by
  obtain ⟨i0, hi, hz0, hz1, hz2⟩ := info_parts info5
  have hgl := h.lt
  have BY := hide (fun w1 hc => byte_cc a len cap g B hl hB w1 hc)
  have HT0 : Hid (TxR a len cap g B w (w.alloc (.cells #[] 5)) (.slice (some ⟨w.heap.size, 0, none⟩) 0 0) 0) := ⟨[], rfl, World.ownsRow_made w #[] 0 (Nat.le_refl _) (Nat.zero_le _) rfl, h.alloc hB _, Kept.of_below (below_new _ _)⟩
  clear h
  have hn5 : ¬ (5000 : Int) < (n : Int) := by omega
  go_enter Tryz.func34, Tryz.ntmps34
  go_wp2_with fail
  go_loopw [5, 6] (fun out a6 wr => ∃ (i : Nat) (ov : Value), a6 = .int .i64 (i : Int) ∧ ov = out ∧ i ≤ n ∧ Hid (TxR a len cap g B w wr ov i)) (fun _ a6 _ => n - (intOf a6).toNat)
  case atStart => exact ⟨0, _, rfl, rfl, Nat.zero_le _, unhide HT0⟩
  case round =>
    obtain ⟨i, ov, rfl, rfl, hi2, HT⟩ := hrel
    obtain ⟨l, hll, hown, hcc, hkp⟩ := unhide HT
    by_cases hlt : i < n
    · have H := hide (unhide BY wr hcc)
      have hob : ∀ k, ov.ownBlock = some k → ¬ k = g := fun k hk e => by have := (hown.lt k hk).1; omega
      have HO := hide (fun (w2 : World) (hg : Kept (fun k => k = g) wr w2) => hg.own hown hob)
      have HKP := hide hkp
      have hz := hkp.2.2.2.1
      have HLL := hide hll
      clear hown hcc hkp hob HT hll
      go_wp2_with fail
      refine (unhide H).mono ?_
      rintro e w2 ⟨⟨x, rfl, hx⟩, hc2, hg2⟩
      have hown2 := unhide HO w2 hg2
      have hz2' := hg2.2.2.2.1
      have HK2 := hide ((unhide HKP).trans hg2)
      have HC2 := hide hc2
      clear hc2 hg2 H HO HKP
      go_wp2_with (at_builtin; refine wpList_append_own _ rfl _ _ 22 rfl w.heap.size 5 i0 (.int .u8 0) 1 1 Tryz.underlying22 hi hz0 hz1 hz2 rfl (by decide) _ _ _ rfl (hown2.alloc _) ⟨w2.heap.size, 0, none⟩ 1 1 [.int .u8 (x : Int)] rfl rfl (cell_one_new _ _ _) (one_byte _) ?c3 ?c4 ?c5 ?_)
      case c3 => unfold maxLen; omega
      case c4 => omega
      case c5 => simp; omega
      intro v' w3 hown' hgrow _
      have HT3 : Hid (TxR a len cap g B w w3 v' (i + 1)) := by
        have hll := unhide HLL
        have hK2 := unhide HK2
        have ha : Kept (fun k => k = g) w2 (w2.alloc (.cells #[.int .u8 (x : Int)] 5)) := Kept.of_below (below_new _ _)
        have hb : Kept (fun k => ov.ownBlock = some k) (w2.alloc (.cells #[.int .u8 (x : Int)] 5)) w3 := (Kept.of_grown hgrow).weak (fun k hk => hk)
        have hlow : ∀ k, ov.ownBlock = some k → w.heap.size ≤ k := fun k hk => (hown2.lt k hk).1
        refine ⟨l ++ [UInt8.ofNat x], by simp [hll], ?_, ?_, ?_⟩
        · have h := own_snoc (pre := l) (c := UInt8.ofNat x) (by rw [toNat_ofNat_small _ (by omega)]) (by rw [hll]; exact hown')
          simp only [List.length_append, List.length_singleton, hll] at h
          exact h
        · exact ((unhide HC2).alloc hB _).kept hb hB (fun k hk => by have := hlow k hk; omega)
        · refine ⟨?_, ?_, ?_, ?_, ?_⟩
          · exact hb.1.trans (ha.1.trans hK2.1)
          · exact hb.2.1.trans (ha.2.1.trans hK2.2.1)
          · exact hb.2.2.1.trans (ha.2.2.1.trans hK2.2.2.1)
          · exact Nat.le_trans hK2.2.2.2.1 (Nat.le_trans ha.2.2.2.1 hb.2.2.2.1)
          · intro k hk hS
            have h1 := hK2.2.2.2.2 k hk hS
            have h2 := ha.2.2.2.2 k (by omega) hS
            have h3 := hb.2.2.2.2 k (by have := ha.2.2.2.1; omega) (fun e => by have := hlow k e; omega)
            exact h3.trans (h2.trans h1)
      clear hown' hgrow hown2
      go_wp2
      exact ⟨⟨i + 1, _, by go_num, rfl, by omega, unhide HT3⟩, by simp [intOf]; omega⟩
    · obtain rfl : i = n := by omega
      have hown1 : wr.ownsRow w.heap.size 5 1 ov l.length (bytesV l) := by rw [hll]; exact hown
      have hcv := convert_own wr 22 9 5 w.heap.size ov _ Tryz.underlying22 Tryz.underlying5 Tryz.underlying9 hown1
      have HS : Hid ((ByteArray.mk l.toArray).size = i) := by show l.toArray.size = i; simp [hll]
      have HCC := hide hcc
      have HKP := hide hkp
      clear hown1 hown hcc hkp hll HT
      go_wp2
      go_ret
      exact ⟨⟨_, rfl, unhide HS⟩, unhide HCC, unhide HKP⟩
end Gr
end Go.Proofs.YthbhdfeafbineaaGreat
