/-
  The contracts of laws.markText, markItemS and heldItemS, markPage and heldPage: what is marked is held; nothing but that row is written.
-/
import Derived.Test.YtdmcnojhjmadjaaPgKept
import Derived.Test.YtdmcnojhjmadjaaPgByte
import Derived.Deep.RegionHeld3
namespace Go.Proofs.Ytdmcnojhjmadjaa
namespace Pg
open Go.RowKit

/-- One figure. -/
def fig1 (k : Nat) : ByteArray := ⟨#[UInt8.ofNat (48 + k % 10)]⟩

def mkT : Nat → Nat → ByteArray → ByteArray
  | 0, _, out => out
  | f + 1, k, out => if k = 0 then out else mkT f (k / 10) (fig1 k ++ out)

/-- The text of a number from 1 on. -/
def markT (k : Nat) : ByteArray := ⟨#[109]⟩ ++ mkT 20 k ⟨#[]⟩

theorem mkT_step (f k : Nat) (out : ByteArray) (h : k ≠ 0) : mkT (f + 1) k out = mkT f (k / 10) (fig1 k ++ out) := if_neg h
theorem mkT_end (f : Nat) (out : ByteArray) : mkT f 0 out = out := by cases f <;> simp [mkT]

theorem fig_row (k : Nat) (w : World) :
    (convert 95 9 (.slice (some ⟨w.heap.size, 0, none⟩) 1 1)).run Try.prog (w.alloc (.cells #[.int .u8 (48 + (k : Int) % 10)] 5)) = .ok (.string (fig1 k)) (w.alloc (.cells #[.int .u8 (48 + (k : Int) % 10)] 5)) := by
  refine run_convert_bytes_back _ 95 9 5 ⟨w.heap.size, 0, none⟩ 1 [UInt8.ofNat (48 + k % 10)] Try.underlying95 Try.underlying5 Try.underlying9 fun j hj => ?_
  have hj0 : j = 0 := by simp at hj; omega
  subst hj0
  rw [Addr.add_lit, Nat.zero_add, cell_of_row _ w.heap.size 0 _ 5 (0, 0) (heap_alloc_new w _)]
  have h : ((UInt8.ofNat (48 + k % 10)).toNat : Int) = 48 + (k : Int) % 10 := by rw [toNat_ofNat_small _ (by omega)]; omega
  rw [← h]
  rfl

set_option maxRecDepth 100000 in
set_option maxHeartbeats 1000000 in
theorem markText_any (k : Nat) (h0 : 0 < k) (h1 : k ≤ 1000000000) (w : World) :
    Calls Try.prog 41 #[.int .i64 (k : Int)] w fun e w' => e = .returned (.string (markT k)) ∧ Below w.heap.size w w' := by
  have hk0 : ¬ (k : Int) ≤ 0 := by omega
  go_enter Try.func41, Try.ntmps41
  go_wp2_with fail
  go_loopw [0, 3] (fun a0 a3 wr => ∃ (y f : Nat) (out : ByteArray), a0 = .int .i64 y ∧ y ≤ 1000000000 ∧ y < 10 ^ f ∧ f ≤ 20 ∧ out.size + f ≤ 20 ∧ a3 = .string out ∧ Hid (mkT f y out = mkT 20 k ⟨#[]⟩) ∧ Below w.heap.size w wr) (fun a0 _ _ => (intOf a0).toNat)
  case atStart => exact ⟨k, 20, ⟨#[]⟩, rfl, h1, by omega, Nat.le_refl _, Nat.le_refl _, rfl, rfl, Below.refl _ _⟩
  case round =>
    obtain ⟨y, f, out, rfl, hy1, hyf, hf, hos, rfl, hm, hb⟩ := hrel
    by_cases hy : 0 < y
    · obtain ⟨f, rfl⟩ : ∃ f', f = f' + 1 := ⟨f - 1, by cases f with | zero => simp at hyf; omega | succ f => rfl⟩
      have hcv := fig_row y wr
      have hst := mkT_step f y out (by omega)
      have HM := hide (hst.symm.trans (unhide hm))
      have hyf2 : y / 10 < 10 ^ f := by rw [Nat.pow_succ] at hyf; omega
      have HYF := hide hyf2
      have hfs : (fig1 y).size = 1 := rfl
      generalize fig1 y = g at hcv HM hfs
      clear hst hm hyf hyf2
      have hy' : (0 : Int) < (y : Int) := by omega
      go_wp2
      go_roundw
      case rel => exact ⟨y / 10, f, g ++ out, by go_num, by omega, unhide HYF, by omega, by rw [ByteArray.size_append]; omega, rfl, unhide HM, hb.alloc hb.size _⟩
      case measure => simp [intOf]; omega
    · obtain rfl : y = 0 := by omega
      have hm2 := unhide hm
      rw [mkT_end] at hm2
      have HM := hide hm2
      clear hm hm2 hyf
      go_wp2
      go_ret
      refine ⟨?_, hb⟩
      unfold markT
      rw [← unhide HM]
      rfl
/-- The first j of a list, and of another one the rest. -/
def over {α : Type} (M L : List α) (j : Nat) : List α := M.take j ++ L.drop j

theorem over_zero {α : Type} (M L : List α) : over M L 0 = L := by simp [over]

theorem over_all {α : Type} (M L : List α) (h : M.length = L.length) : over M L L.length = M := by simp [over, ← h]

theorem over_length {α : Type} (M L : List α) (j : Nat) (h : M.length = L.length) (hj : j ≤ L.length) : (over M L j).length = L.length := by simp [over]; omega

theorem over_set {α : Type} (M L : List α) (j : Nat) (h : M.length = L.length) (hj : j < L.length) : (over M L j).set j (M[j]'(by omega)) = over M L (j + 1) := by
  unfold over
  have e : (M.take j).length = j := by simp; omega
  rw [List.set_append_right _ _ (by omega), e, Nat.sub_self]
  have e2 : L.drop j = L[j] :: L.drop (j + 1) := (List.getElem_cons_drop hj).symm
  rw [e2, List.set_cons_zero, List.take_succ_eq_append_getElem (by omega), List.append_assoc]
  rfl

/-- The marks of n items from k on. -/
def marksI (k n : Nat) : List It := (List.range n).map fun i => ⟨markT (k + i * 3), markT (k + i * 3 + 1), ((k + i * 3 + 2 : Nat) : Int)⟩

theorem marksI_length (k n : Nat) : (marksI k n).length = n := by simp [marksI]
theorem marksI_at (k n i : Nat) (h : i < (marksI k n).length) : (marksI k n)[i] = ⟨markT (k + i * 3), markT (k + i * 3 + 1), ((k + i * 3 + 2 : Nat) : Int)⟩ := by simp [marksI]

theorem markInt {y : Nat} {z : Int} (h0 : 0 < y) (h1 : y ≤ 1000000000) (hz : z = (y : Int)) (w : World) : Calls Try.prog 41 #[.int .i64 z] w fun e w' => e = .returned (.string (markT y)) ∧ Below w.heap.size w w' := by
  subst hz
  exact markText_any y h0 h1 w

set_option maxRecDepth 100000 in
set_option maxHeartbeats 2000000 in
theorem markItems_any (v : Value) (B n k : Nat) (Q : List It) (h0 : 0 < k) (h1 : k + n * 3 ≤ 100000000) (w : World) (ho : w.ownsRow B 68 3 v n (itsV Q)) :
    Calls Try.prog 17 #[v, .int .i64 (k : Int)] w fun e w' => e = .returned (.int .i64 ((k + n * 3 : Nat) : Int)) ∧ w'.ownsRow B 68 3 v n (itsV (marksI k n)) ∧ Kept (fun g => v.ownBlock = some g) w w' := by
  have hl : Q.length = n := by have := ho.1; rw [itsV_length] at this; omega
  obtain ⟨A, cap, rfl⟩ : ∃ A cap, v = .slice A n cap := by
    obtain ⟨a, c, e, _⟩ := ItemsAt.of_own ho
    exact ⟨a, c, e⟩
  have HO := hide ho
  have HL := hide hl
  clear ho hl
  go_enter Try.func17, Try.ntmps17
  go_wp2_with fail
  go_loopw [1, 5] (fun a1 a5 wr => ∃ j y : Nat, a5 = .int .i64 j ∧ j ≤ n ∧ y = k + j * 3 ∧ a1 = .int .i64 (y : Int) ∧ wr.ownsRow B 68 3 (.slice A n cap) n (itsV (over (marksI k n) Q j)) ∧ Kept (fun g => (Value.slice A n cap).ownBlock = some g) w wr) (fun _ a5 _ => n - (intOf a5).toNat)
  case atStart => exact ⟨0, k, rfl, Nat.zero_le _, rfl, rfl, by rw [over_zero]; exact unhide HO, Kept.refl _ _⟩
  case round =>
    obtain ⟨j, y, rfl, hj, hy, rfl, hown, hkp⟩ := hrel
    have HY := hide hy
    by_cases hlt : j < n
    · obtain ⟨g, cap', hA, hBg, hgl⟩ := hown.form (by omega)
      simp at hA
      obtain ⟨rfl, rfl⟩ := hA
      have hm := marksI_at k n j (by rw [marksI_length]; exact hlt)
      rw [← hy] at hm
      have hjL : j < Q.length := by have := unhide HL; omega
      have hset := over_set (marksI k n) Q j (by rw [marksI_length]; exact (unhide HL).symm) hjL
      rw [hm] at hset
      have hol : j < (over (marksI k n) Q j).length := by rw [over_length _ _ _ (by rw [marksI_length]; exact (unhide HL).symm) (by omega)]; exact hjL
      have hps := itsV_set (over (marksI k n) Q j) j hol ⟨markT y, markT (y + 1), ((y + 2 : Nat) : Int)⟩
      rw [hset] at hps
      have HPS := hide hps
      have hx0 : (0 : Int) ≤ (j : Int) := by omega
      have hx1 : (j : Int) < (n : Int) := by omega
      have hat := itsV_at _ j hol
      have HO1 := hide hown
      have HAT := hide hat
      have HT0 := hide (fun w => markInt (y := y) (z := (y : Int)) (by omega) (by omega) rfl w)
      have HT1 := hide (fun w => markInt (y := y + 1) (z := (y : Int) + 1) (by omega) (by omega) (by omega) w)
      have hyl : (y : Int) ≤ 100000000 := by omega
      have hy2 : ((y + 2 : Nat) : Int) = (y : Int) + 2 := by omega
      generalize (over (marksI k n) Q j)[j] = q at HAT
      clear hm hset hown hat hps hy
      go_wp2_with fail
      refine (unhide HT0 _).mono ?_
      rintro e w1 ⟨rfl, hb1⟩
      have hown := own_below (unhide HO1) hb1
      have hkp1 := hkp.trans (Kept.of_below hb1)
      have hce0 := hown.cellAt (j * 3) (by omega)
      rw [(unhide HAT).1] at hce0
      have hf0 := hown.frozenAt (j * 3)
      have hst0 := (hown.stored (j * 3) (.string (markT y))).1
      have HS0 := hide hst0
      have hkp2 := hkp1.trans (Kept.set w1 g (j * 3) (.string (markT y)) rfl)
      clear hst0 hown hb1 hkp hkp1
      go_wp2_with fail
      refine (unhide HT1 _).mono ?_
      rintro e w2 ⟨rfl, hb2⟩
      have hown := own_below (unhide HS0) hb2
      have hkp3 := hkp2.trans (Kept.of_below hb2)
      have hce1 := hown.cellAt (j * 3 + 1) (by omega)
      have e1 : ((itsV (over (marksI k n) Q j)).set (j * 3) (.string (markT y)))[j * 3 + 1]? = some (.string q.val) := by
        rw [List.getElem?_set_ne (by omega)]; exact (unhide HAT).2.1
      rw [e1] at hce1
      have hf1 := hown.frozenAt (j * 3 + 1)
      have hst1 := (hown.stored (j * 3 + 1) (.string (markT (y + 1)))).1
      have hce2 := hst1.cellAt (j * 3 + 2) (by omega)
      have e2 : (((itsV (over (marksI k n) Q j)).set (j * 3) (.string (markT y))).set (j * 3 + 1) (.string (markT (y + 1))))[j * 3 + 2]? = some (.int .i64 q.pg) := by
        rw [List.getElem?_set_ne (by omega), List.getElem?_set_ne (by omega)]; exact (unhide HAT).2.2
      rw [e2] at hce2
      have hf2 := hst1.frozenAt (j * 3 + 2)
      have hst := (hst1.stored (j * 3 + 2) (.int .i64 ((y + 2 : Nat) : Int))).1
      rw [unhide HPS, hy2] at hst
      have HST := hide hst
      clear hst hst1 hown hb2 hkp2 hce0 e1 e2 hf0
      generalize markT y = t0 at HST
      generalize markT (y + 1) = t1 at HST hce2 hf2
      go_wp2
      go_roundw
      case rel => exact ⟨j + 1, y + 3, by go_num, by omega, by have := unhide HY; omega, by go_num, unhide HST, (hkp3.trans (Kept.set _ g (j * 3 + 1) _ rfl)).trans (Kept.set _ g (j * 3 + 2) _ rfl)⟩
      case measure => simp [intOf]; omega
    · obtain rfl : j = n := by omega
      have HW := hide hown
      clear hown hy
      go_wp2
      go_ret
      refine ⟨by rw [← unhide HY]; rfl, ?_, hkp⟩
      have h := unhide HW
      have e := unhide HL
      have e2 := over_all (marksI k Q.length) Q (by rw [marksI_length])
      rw [e] at e2
      rw [e2] at h
      exact h

set_option maxRecDepth 100000 in
set_option maxHeartbeats 2000000 in
theorem heldItems_any (A : Option Addr) (n cap B k : Nat) (h0 : 0 < k) (h1 : k + n * 3 ≤ 100000000) (w : World) (hB : B ≤ w.heap.size) (hs : ItemsAt w A n B (marksI k n)) :
    Calls Try.prog 42 #[.slice A n cap, .int .i64 (k : Int)] w fun e w' => e = .returned (.int .i64 ((k + n * 3 : Nat) : Int)) ∧ Below w.heap.size w w' := by
  have HC := hide hs.2
  clear hs
  go_enter Try.func42, Try.ntmps42
  go_wp2_with fail
  go_loopw [1, 5] (fun a1 a5 wr => ∃ j y : Nat, a5 = .int .i64 j ∧ j ≤ n ∧ y = k + j * 3 ∧ a1 = .int .i64 (y : Int) ∧ Below w.heap.size w wr) (fun _ a5 _ => n - (intOf a5).toNat)
  case atStart => exact ⟨0, k, rfl, Nat.zero_le _, rfl, rfl, Below.refl _ _⟩
  case round =>
    obtain ⟨j, y, rfl, hj, hy, rfl, hb⟩ := hrel
    have HY := hide hy
    by_cases hlt : j < n
    · have hjm : j < (marksI k n).length := by rw [marksI_length]; exact hlt
      obtain ⟨b, off, rfl, hbB, hc0, hc1, hc2⟩ := unhide HC j hjm
      rw [marksI_at k n j hjm, ← hy] at hc0 hc1 hc2
      simp only at hc0 hc1 hc2
      have hy2 : ((y + 2 : Nat) : Int) = (y : Int) + 2 := by omega
      rw [hy2] at hc2
      rw [← hb.cell (p := ⟨b, off + j * 3, none⟩) (by simp; omega)] at hc0
      rw [← hb.cell (p := ⟨b, off + j * 3 + 1, none⟩) (by simp; omega)] at hc1
      rw [← hb.cell (p := ⟨b, off + j * 3 + 2, none⟩) (by simp; omega)] at hc2
      have hx0 : (0 : Int) ≤ (j : Int) := by omega
      have hx1 : (j : Int) < (n : Int) := by omega
      have hbl : b < wr.heap.size := by have := hb.size; omega
      have HT0 := hide (fun w => markInt (y := y) (z := (y : Int)) (by omega) (by omega) rfl w)
      have HT1 := hide (fun w => markInt (y := y + 1) (z := (y : Int) + 1) (by omega) (by omega) (by omega) w)
      have hyl : (y : Int) ≤ 100000000 := by omega
      have hne : ((y : Int) + 2 != (y : Int) + 2) = false := by simp
      generalize markT y = t0 at hc0 HT0
      generalize markT (y + 1) = t1 at hc1 HT1
      clear hy hy2
      go_wp2_with fail
      go_region_held3 (fun u => u.cell? ⟨b, off + j * 3, none⟩ = some (.string t0)) (first | go_keep | exact (hb2.cell (p := ⟨b, off + j * 3, none⟩) hbl).trans hc0)
        ((go_at_call 41; refine (unhide HT0 _).mono ?_; rintro e w2 ⟨rfl, hb2⟩))
      have hbe := hb.drew.trans (hb2.mono hb.size)
      have hbl2 : b < w2.heap.size := Nat.lt_of_lt_of_le hbl hb2.size
      have hd1 := (hb2.cell (p := ⟨b, off + j * 3 + 1, none⟩) hbl).trans hc1
      have hd2 := (hb2.cell (p := ⟨b, off + j * 3 + 2, none⟩) hbl).trans hc2
      clear hb2 hb hc0 hc1 hc2
      go_wp2_with fail
      go_region_held3 (fun u => u.cell? ⟨b, off + j * 3 + 1, none⟩ = some (.string t1)) (first | go_keep | exact (hb3.cell (p := ⟨b, off + j * 3 + 1, none⟩) hbl2).trans hd1)
        ((go_at_call 41; refine (unhide HT1 _).mono ?_; rintro e w3 ⟨rfl, hb3⟩))
      have hbf := hbe.drew.trans (hb3.mono hbe.size)
      have he2 := (hb3.cell (p := ⟨b, off + j * 3 + 2, none⟩) hbl2).trans hd2
      clear hb3 hbe hd1 hd2
      go_wp2
      go_roundw
      case rel => exact ⟨j + 1, y + 3, by go_num, by omega, by have := unhide HY; omega, by go_num, hbf⟩
      case measure => simp [intOf]; omega
    · obtain rfl : j = n := by omega
      clear hy
      go_wp2
      go_ret
      exact ⟨by rw [← unhide HY]; rfl, hb⟩

/-- The block of a page's row. -/
def PgBlk (v : Value) (g : Nat) : Prop := ∃ a v1, v = .agg #[a, v1] ∧ v1.ownBlock = some g

theorem PageOwn.blk {w : World} {B : Nat} {v : Value} {k : Int} {Q : List It} (h : PageOwn w B v k Q) : ∀ g, PgBlk v g → B ≤ g ∧ g < w.heap.size := by
  obtain ⟨v1, rfl, h1⟩ := h
  rintro g ⟨u0, u1, e, hg⟩
  simp at e
  obtain ⟨rfl, rfl⟩ := e
  exact h1.lt g hg

theorem PageOwn.kept {S : Nat → Prop} {w w' : World} {B : Nat} {v : Value} {k : Int} {Q : List It} (h : PageOwn w B v k Q) (hk : Kept S w w') (hS : ∀ g, PgBlk v g → ¬ S g) : PageOwn w' B v k Q := by
  obtain ⟨v1, rfl, h1⟩ := h
  exact ⟨v1, rfl, hk.own h1 (fun g hg => hS g ⟨_, v1, rfl, hg⟩)⟩

end Pg
end Go.Proofs.Ytdmcnojhjmadjaa
