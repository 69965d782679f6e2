/-
  The contracts of impl.lostOf and (impl.disk).tear.
-/
import Derived.Test.YtfbfafpfhgjdfaaDisk
import Derived.Test.YtfbfafpfhgjdfaaDevCrash
import Derived.BigRegion
namespace Go.Proofs.Ytfbfafpfhgjdfaa
open Go.RowKit Go.Maps

/-- What the map of lost writes holds: the write at i lies in block m + 1 + i, but for those on the list. -/
def lostF (m n : Nat) (K : List Int) : Int → Option Nat := fun x => if inK K x = true then none else secs m n x

theorem lostF_nil (m n : Nat) : lostF m n [] = secs m n := by
  funext x
  unfold lostF
  rw [if_neg (by simp [inK])]

theorem inK_snoc (K : List Int) (j : Nat) (h : j < K.length) (x : Int) : inK (K.take (j + 1)) x = (inK (K.take j) x || (x == K[j])) := by
  unfold inK
  rw [List.take_succ_eq_append_getElem h, List.contains_eq_any_beq, List.any_append, List.contains_eq_any_beq]
  simp

theorem lostF_snoc (m n : Nat) (K : List Int) (j : Nat) (h : j < K.length) : upd (lostF m n (K.take j)) K[j] none = lostF m n (K.take (j + 1)) := by
  funext x
  unfold upd lostF
  rw [inK_snoc K j h x]
  by_cases hx : x = K[j]
  · rw [if_pos hx, if_pos (by simp [hx])]
  · rw [if_neg hx]
    have e : (x == K[j]) = false := by simp [hx]
    rw [e, Bool.or_false]

/-- The lost writes, behind pointers, in the map in block m. -/
def Lost (w : World) (m : Nat) (Q : List (Int × ByteArray)) (K : List Int) : Prop :=
  (∃ c sz, PtrMap w m c (lostF m Q.length K) sz) ∧ ∀ i (h : i < Q.length), w.heap[m + 1 + i]? = some (.cells #[.int .i64 Q[i].1, .string Q[i].2] 66 (0, 0))

theorem Lost.size {w : World} {m : Nat} {Q : List (Int × ByteArray)} {K : List Int} (h : Lost w m Q K) : m + Q.length < w.heap.size := by
  obtain ⟨⟨c, sz, hp⟩, hs⟩ := h
  rcases Nat.eq_zero_or_pos Q.length with h0 | h0
  · have := hp.lt; omega
  · have h1 := hs (Q.length - 1) (by omega)
    rcases Nat.lt_or_ge (m + 1 + (Q.length - 1)) w.heap.size with h2 | h2
    · omega
    · rw [Array.getElem?_eq_none h2] at h1; cases h1

theorem Lost.kept {S : Nat → Prop} {w w' : World} {m : Nat} {Q : List (Int × ByteArray)} {K : List Int} (h : Lost w m Q K) (hk : Kept S w w') (hS : ∀ g, m ≤ g → g ≤ m + Q.length → ¬ S g) : Lost w' m Q K := by
  have hsz := h.size
  obtain ⟨⟨c, sz, hp⟩, hs⟩ := h
  refine ⟨⟨c, sz, hp.kept hk (hS m (Nat.le_refl _) (by omega))⟩, fun i hi => ?_⟩
  rw [hk.2.2.2.2 (m + 1 + i) (by omega) (hS _ (by omega) (by omega))]
  exact hs i hi

theorem Lost.below {w w' : World} {m : Nat} {Q : List (Int × ByteArray)} {K : List Int} (h : Lost w m Q K) (hb : Below w.heap.size w w') : Lost w' m Q K :=
  h.kept (S := fun _ => False) (Kept.of_below hb) (by simp)

theorem zeroPut (w : World) : (zeroValue 82).run Try.prog w = .ok (.pointer none) w := by kernel_rfl

theorem Lost.look {w : World} {m : Nat} {Q : List (Int × ByteArray)} {K : List Int} (h : Lost w m Q K) (x : Int) (hx : (Lit.int .i64 x).wf = true) :
    (Instr.lookup 80 (.map (some m)) (.int .i64 x) false).run Try.prog w = .ok (ptrOf (lostF m Q.length K x)) w := by
  obtain ⟨⟨c, sz, hp⟩, hs⟩ := h
  exact hp.look Try.underlying80 (zeroPut w) x hx

set_option maxRecDepth 100000 in
set_option maxHeartbeats 1000000 in
theorem lostOf_any (a : Option Addr) (n c B : Nat) (Q : List (Int × ByteArray)) (ka : Option Addr) (kn kc : Nat) (K : List Int) (hn : n ≤ 1048576) (hkn : kn ≤ 1048576) (hwf : ∀ x ∈ K, (Lit.int .i64 x).wf = true) (w : World) (hB : B ≤ w.heap.size) (hs : PutsAt w a n B Q) (hK : IntsAt w ka kn B K) :
    Calls Try.prog 59 #[.slice a n c, .slice ka kn kc] w fun e w' => e = .returned (.map (some w.heap.size)) ∧ Lost w' w.heap.size Q K ∧ Below w.heap.size w w' := by
  obtain ⟨hL, hc⟩ := hs
  obtain ⟨hKL, hkc⟩ := hK
  have HC := hide hc
  have HL := hide hL
  have HKC := hide hkc
  have HKL := hide hKL
  have HWF := hide hwf
  have hmm := @run_makeMap Try.prog
  clear hc hL hkc hKL hwf
  go_enter Try.func59, Try.ntmps59
  go_wp2_with fail
  go_loopw [13] (fun a13 wr => ∃ j : Nat, a13 = .int .i64 j ∧ j ≤ n ∧ PtrMap wr w.heap.size j (secs w.heap.size j) j ∧ (∀ i (h : i < Q.length), i < j → wr.heap[w.heap.size + 1 + i]? = some (.cells #[.int .i64 Q[i].1, .string Q[i].2] 66 (0, 0))) ∧ wr.heap.size = w.heap.size + 1 + j ∧ Below w.heap.size w wr) (fun a13 _ => n - (intOf a13).toNat)
  case atStart =>
    refine ⟨0, rfl, Nat.zero_le _, ?_, fun i _ hi => by omega, by simp, (Below.refl _ _).alloc (Nat.le_refl _) _⟩
    have h := PtrMap.made w
    rw [← secs_zero w.heap.size] at h
    exact h
  case round =>
    obtain ⟨j, rfl, hj, hp, hs, hz, hb⟩ := hrel
    by_cases hlt : j < n
    · have hjL : j < Q.length := by have := unhide HL; omega
      obtain ⟨b, off, rfl, hbB, hc0, hc1⟩ := unhide HC j hjL
      rw [← hb.cell (p := ⟨b, off + j * 2, none⟩) (by simp; omega)] at hc0
      rw [← hb.cell (p := ⟨b, off + j * 2 + 1, none⟩) (by simp; omega)] at hc1
      have hx0 : (0 : Int) ≤ (j : Int) := by omega
      have hx1 : (j : Int) < (n : Int) := by omega
      have hbn := below_new wr (Obj.cells #[Value.int .i64 Q[j].1, Value.string Q[j].2] 66)
      have hp1 := hp.below hbn
      obtain ⟨w1, hrun, hp2, hk2, hsz⟩ := hp1.store Try.underlying80 (by unfold maxLen; omega) (j : Int) (wf_small j (by omega)) wr.heap.size (secs_none _ _)
      rw [hz, secs_succ] at hp2
      have HS1 : Hid (∀ i (h : i < Q.length), i < j + 1 → w1.heap[w.heap.size + 1 + i]? = some (.cells #[.int .i64 Q[i].1, .string Q[i].2] 66 (0, 0))) := by
        intro i hi hij
        rw [hk2.2.2.2.2 _ (by simp; omega) (by omega)]
        by_cases he : i = j
        · subst he
          have h := heap_alloc_new wr (Obj.cells #[Value.int .i64 Q[i].1, Value.string Q[i].2] 66)
          rw [hz] at h
          exact h
        · rw [hbn.block _ (by omega)]
          exact hs i hi (by omega)
      have HP2 := hide hp2
      have hsz1 : w1.heap.size = wr.heap.size + 1 := by rw [hsz]; simp
      have HSZ := hide hsz1
      have HZ := hide hz
      have hbb : Below w.heap.size w w1 := (hb.alloc hb.size _).trans (hk2.below (by simp; omega) (fun g hg => by omega))
      generalize Q[j] = q at hc0 hc1 hrun
      obtain ⟨x, s⟩ := q
      simp only at hc0 hc1 hrun
      clear hp hp1 hp2 hk2 hs hsz hsz1 hz hbn hb
      go_wp2
      go_roundw
      case rel => exact ⟨j + 1, by go_num, by omega, unhide HP2, unhide HS1, by have := unhide HZ; have := unhide HSZ; omega, hbb⟩
      case measure => simp [intOf]; omega
    · obtain rfl : j = n := by omega
      obtain ⟨w4, rfl⟩ : ∃ x, x = wr := ⟨wr, rfl⟩
      have HLO : Hid (Lost w4 w.heap.size Q []) := by
        refine ⟨⟨j, j, ?_⟩, fun i hi => hs i hi (by have := unhide HL; omega)⟩
        rw [lostF_nil, unhide HL]
        exact hp
      clear hp hs hz
      go_wp2_with fail
      go_loopw [23] (fun a23 wr => ∃ i : Nat, a23 = .int .i64 i ∧ i ≤ kn ∧ Lost wr w.heap.size Q (K.take i) ∧ Below w.heap.size w wr) (fun a23 _ => kn - (intOf a23).toNat)
      case atStart => exact ⟨0, rfl, Nat.zero_le _, unhide HLO, hb⟩
      case round =>
        obtain ⟨i, rfl, hi, hlo, hb5⟩ := hrel
        by_cases hlt5 : i < kn
        · have hiK : i < K.length := by have := unhide HKL; omega
          obtain ⟨b, off, rfl, hbB, hcell⟩ := unhide HKC i hiK
          rw [← hb5.cell (p := ⟨b, off + i, none⟩) (by simp; omega)] at hcell
          have hu0 : (0 : Int) ≤ (i : Int) := by omega
          have hu1 : (i : Int) < (kn : Int) := by omega
          have hlz := hlo.size
          obtain ⟨⟨c5, sz5, hp⟩, hs⟩ := hlo
          have HDR := hide (fun ty => hp.drop (ty := ty) Try.underlying80 K[i] (unhide HWF _ (List.getElem_mem hiK)))
          obtain ⟨w6, sz6, hrun, hp6, hk6⟩ := unhide HDR 0
          rw [lostF_snoc _ _ K i hiK] at hp6
          have HLO6 : Hid (Lost w6 w.heap.size Q (K.take (i + 1))) := by
            refine ⟨⟨c5, sz6, hp6⟩, fun k hk => ?_⟩
            rw [hk6.2.2.2.2 _ (by omega) (by omega)]
            exact hs k hk
          have hb6 : Below w.heap.size w w6 := hb5.trans (hk6.below hb5.size (fun g hg => by omega))
          generalize K[i] = x at hcell hrun
          clear hp hs hp6 hk6 hlz HDR
          go_wp2
          go_roundw
          case rel => exact ⟨i + 1, by go_num, by omega, unhide HLO6, hb6⟩
          case measure => simp [intOf]; omega
        · obtain rfl : i = kn := by omega
          have HD := hide hlo
          clear hlo
          go_wp2
          go_ret
          refine ⟨rfl, ?_, hb5⟩
          have h := unhide HD
          rw [List.take_of_length_le (by have := unhide HKL; omega)] at h
          exact h
end Go.Proofs.Ytfbfafpfhgjdfaa
