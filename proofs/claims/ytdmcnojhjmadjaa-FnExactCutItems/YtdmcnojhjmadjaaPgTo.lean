/-
  The contracts of laws.toItem, toItemS and toPage: what is made is new, and holds what came in.
-/
import Derived.Test.YtdmcnojhjmadjaaPgAt
import Derived.Handy
namespace Go.Proofs.Ytdmcnojhjmadjaa
namespace Pg
open Go.RowKit

/-- The first k of a list, and something else up to its length. -/
def part {α : Type} (L : List α) (z : α) (k : Nat) : List α := L.take k ++ List.replicate (L.length - k) z

theorem part_zero {α : Type} (L : List α) (z : α) : part L z 0 = List.replicate L.length z := by simp [part]
theorem part_all {α : Type} (L : List α) (z : α) : part L z L.length = L := by simp [part]
theorem part_length {α : Type} (L : List α) (z : α) (k : Nat) (h : k ≤ L.length) : (part L z k).length = L.length := by simp [part]; omega

theorem part_set {α : Type} (L : List α) (z : α) (k : Nat) (h : k < L.length) : (part L z k).set k L[k] = part L z (k + 1) := by
  unfold part
  rw [List.set_append_right _ _ (by simp; omega)]
  have e : L.length - k = (L.length - (k + 1)) + 1 := by omega
  rw [e, List.replicate_succ, List.take_succ_eq_append_getElem h]
  have e2 : k - (L.take k).length = 0 := by simp; omega
  rw [e2, List.set_cons_zero, List.append_assoc]
  rfl

theorem toItem_any (x : It) (w : World) :
    Calls Try.prog 37 #[itV x] w fun e w' => e = .returned (itV x) ∧ Below w.heap.size w w' := by
  unfold itV
  go_enter Try.func37, Try.ntmps37
  go_wp2
  go_returns
  exact ⟨rfl, (((Below.refl _ _).alloc (Nat.le_refl _) _).alloc (by simp) _).alloc (by simp; omega) _⟩

theorem infoItem : (Try.prog.info? 68).map (fun i => (i.zero, i.size, i.bytes)) = some (some (.agg #[.string ⟨#[]⟩, .string ⟨#[]⟩, .int .i64 0]), 3, 40) := by kernel_rfl

theorem own_below {B : Nat} {e : TypeId} {k : Nat} {v : Value} {n : Nat} {xs : List Value} {w w' : World} (h : w.ownsRow B e k v n xs) (hb : Below w.heap.size w w') : w'.ownsRow B e k v n xs :=
  h.kept (row := none) ⟨hb.os, hb.tape, hb.output, hb.size, fun j hj _ => hb.block j hj⟩ (by cases hv : v.ownBlock <;> simp)

def itsV (Q : List It) : List Value := Q.flatMap fun q => [.string q.key, .string q.val, .int .i64 q.pg]

theorem itsV_length (Q : List It) : (itsV Q).length = Q.length * 3 := by
  induction Q with
  | nil => rfl
  | cons q Q ih => simp [itsV] at ih ⊢; omega

theorem itsV_at (Q : List It) (k : Nat) (h : k < Q.length) : (itsV Q)[k * 3]? = some (.string Q[k].key) ∧ (itsV Q)[k * 3 + 1]? = some (.string Q[k].val) ∧ (itsV Q)[k * 3 + 2]? = some (.int .i64 Q[k].pg) := by
  induction Q generalizing k with
  | nil => simp at h
  | cons q Q ih =>
    cases k with
    | zero => simp [itsV]
    | succ k =>
      have := ih k (by simpa using h)
      have e : (k + 1) * 3 = k * 3 + 3 := by omega
      simpa [itsV, e] using this

theorem itsV_set (Q : List It) (k : Nat) (h : k < Q.length) (x : It) : (((itsV Q).set (k * 3) (.string x.key)).set (k * 3 + 1) (.string x.val)).set (k * 3 + 2) (.int .i64 x.pg) = itsV (Q.set k x) := by
  induction Q generalizing k with
  | nil => simp at h
  | cons q Q ih =>
    cases k with
    | zero => simp [itsV]
    | succ k =>
      have := ih k (by simpa using h)
      have e : (k + 1) * 3 = k * 3 + 3 := by omega
      simpa [itsV, e] using this

theorem itsV_snoc (Q : List It) (x : It) : itsV (Q ++ [x]) = itsV Q ++ [.string x.key, .string x.val, .int .i64 x.pg] := by
  unfold itsV; rw [List.flatMap_append]; rfl

def it0 : It := ⟨⟨#[]⟩, ⟨#[]⟩, 0⟩

theorem made_items (n : Nat) (M : Array Value) (hM : M = madeCells (Value.agg #[.string ⟨#[]⟩, .string ⟨#[]⟩, .int .i64 0]).cells (n * 3)) : M.toList = itsV (List.replicate n it0) ∧ M.size = n * 3 := by
  have hs : M.size = n * 3 := by rw [hM, size_madeCells]
  refine ⟨?_, hs⟩
  apply List.ext_getElem?
  intro j
  by_cases hj : j < n * 3
  · have e : M.toList[j]? = some (if j % 3 = 2 then .int .i64 0 else .string ⟨#[]⟩) := by
      rw [hM]
      have h2 : j % 3 = 0 ∨ j % 3 = 1 ∨ j % 3 = 2 := by omega
      rcases h2 with h2 | h2 | h2 <;> simp [madeCells, Value.cells, hj, h2]
    rw [e]
    have hp := itsV_at (List.replicate n it0) (j / 3) (by simp; omega)
    have h2 : j % 3 = 0 ∨ j % 3 = 1 ∨ j % 3 = 2 := by omega
    rcases h2 with h2 | h2 | h2
    · have ej : j / 3 * 3 = j := by omega
      rw [ej] at hp
      rw [if_neg (by omega), hp.1]
      simp [it0]
    · have ej : j / 3 * 3 + 1 = j := by omega
      rw [ej] at hp
      rw [if_neg (by omega), hp.2.1]
      simp [it0]
    · have ej : j / 3 * 3 + 2 = j := by omega
      rw [ej] at hp
      rw [if_pos h2, hp.2.2]
      simp [it0]
  · rw [List.getElem?_eq_none (by simp; omega), List.getElem?_eq_none (by rw [itsV_length]; simp; omega)]

set_option maxRecDepth 100000 in
set_option maxHeartbeats 1000000 in
theorem toItems_any (a : Option Addr) (len cap B : Nat) (Q : List It) (hlen : len ≤ 1048576) (w : World) (hB : B ≤ w.heap.size) (hs : ItemsAt w a len B Q) :
    Calls Try.prog 13 #[.slice a len cap] w fun e w' => (∃ v, e = .returned v ∧ w'.ownsRow w.heap.size 68 3 v len (itsV Q)) ∧ Below w.heap.size w w' := by
  obtain ⟨hL, hc⟩ := hs
  obtain ⟨i0, hi, hz0, hz1, hz2⟩ := info_parts infoItem
  obtain ⟨M, hM⟩ : ∃ M, M = madeCells (Value.agg #[.string ⟨#[]⟩, .string ⟨#[]⟩, .int .i64 0]).cells (len * i0.size) := ⟨_, rfl⟩
  have hmk : ∀ W : World, (Instr.makeSlice 33 (.int .i64 (len : Int)) (.int .i64 (len : Int))).run Try.prog W = .ok (.slice (some ⟨W.heap.size, 0, none⟩) len len) (W.alloc (.cells M 68)) := fun W => by
    have h := run_make (P := Try.prog) W 33 68 i0 (.agg #[.string ⟨#[]⟩, .string ⟨#[]⟩, .int .i64 0]) Try.underlying33 hi hz0 .i64 .i64 (len : Int) (len : Int) (by omega) (by omega) (by rw [hz2]; omega) (by omega)
    rw [Int.toNat_natCast, ← hM] at h
    simpa using h
  have hMM := made_items len M (by rw [hM, hz1])
  have hown0 : (w.alloc (.cells M 68)).ownsRow w.heap.size 68 3 (.slice (some ⟨w.heap.size, 0, none⟩) len len) len (itsV (part Q it0 0)) :=
    ⟨by rw [itsV_length, part_length _ _ _ (by omega)]; omega, .inr ⟨w.heap.size, len, M, rfl, Nat.le_refl _, heap_alloc_new w _, Nat.le_refl _, by unfold maxLen; omega, hMM.2, by rw [hMM.1, part_zero, hL, List.take_of_length_le (by rw [itsV_length]; simp)]⟩⟩
  have HO0 := hide hown0
  have HC := hide hc
  have HL := hide hL
  clear hc hL hM hMM hown0
  go_enter Try.func13, Try.ntmps13
  go_wp2_with fail
  go_loopw [4] (fun a4 wr => ∃ k : Nat, a4 = .int .i64 k ∧ k ≤ len ∧ wr.ownsRow w.heap.size 68 3 (.slice (some ⟨w.heap.size, 0, none⟩) len len) len (itsV (part Q it0 k)) ∧ Below w.heap.size w wr) (fun a4 _ => len - (intOf a4).toNat)
  case atStart => exact ⟨0, rfl, Nat.zero_le _, unhide HO0, (Below.refl _ _).alloc (Nat.le_refl _) _⟩
  case round =>
    obtain ⟨k, rfl, hk, hown, hb⟩ := hrel
    by_cases hlt : k < len
    · have hkL : k < Q.length := by have := unhide HL; omega
      obtain ⟨b, off, rfl, hbB, hcell, hcell1, hcell2⟩ := unhide HC k hkL
      rw [← hb.cell (p := ⟨b, off + k * 3, none⟩) (by simp; omega)] at hcell
      rw [← hb.cell (p := ⟨b, off + k * 3 + 1, none⟩) (by simp; omega)] at hcell1
      rw [← hb.cell (p := ⟨b, off + k * 3 + 2, none⟩) (by simp; omega)] at hcell2
      have hx0 : (0 : Int) ≤ (k : Int) := by omega
      have hx1 : (k : Int) < (len : Int) := by omega
      have HO := hide hown
      clear hown
      have HP := hide (part_set Q it0 k hkL)
      generalize Q[k] = q at hcell hcell1 hcell2 HP
      have HTI := hide (fun w => toItem_any q w)
      have HIS := hide (fun (h : k < (part Q it0 k).length) => itsV_set (part Q it0 k) k h q)
      obtain ⟨s, t, p⟩ := q
      simp only [itV] at hcell hcell1 hcell2 HTI HIS
      go_wp2_with fail
      refine (unhide HTI _).mono ?_
      rintro e w1 ⟨rfl, hb1⟩
      have hown := own_below (unhide HO) hb1
      have hkp : k < (part Q it0 k).length := by rw [part_length _ _ _ (by omega)]; omega
      have hat := itsV_at _ k hkp
      have hce0 := hown.cellAt (k * 3) (by omega)
      have hce1 := hown.cellAt (k * 3 + 1) (by omega)
      have hce2 := hown.cellAt (k * 3 + 2) (by omega)
      rw [hat.1] at hce0
      rw [hat.2.1] at hce1
      rw [hat.2.2] at hce2
      have hf0 := hown.frozenAt (k * 3)
      have hf1 := hown.frozenAt (k * 3 + 1)
      have hf2 := hown.frozenAt (k * 3 + 2)
      have hst := (((hown.stored (k * 3) (.string s)).1.stored (k * 3 + 1) (.string t)).1.stored (k * 3 + 2) (.int .i64 p)).1
      rw [unhide HIS hkp, unhide HP] at hst
      have HST := hide hst
      have hbb := hb.trans (hb1.mono hb.size)
      clear hst hown hat hb hb1 hcell hcell1 hcell2
      go_wp2
      go_roundw
      case rel => exact ⟨k + 1, by go_num, by omega, unhide HST, ((hbb.setCell (p := ⟨w.heap.size, k * 3, none⟩) (Nat.le_refl _) _).setCell (p := ⟨w.heap.size, k * 3 + 1, none⟩) (Nat.le_refl _) _).setCell (p := ⟨w.heap.size, k * 3 + 2, none⟩) (Nat.le_refl _) _⟩
      case measure => simp [intOf]; omega
    · obtain rfl : k = len := by omega
      have HO := hide hown
      clear hown
      go_wp2
      go_ret
      refine ⟨⟨_, rfl, ?_⟩, hb⟩
      have h := unhide HO
      have e := unhide HL
      subst e
      rw [part_all] at h
      exact h

theorem ItemsAt.of_own {w : World} {B : Nat} {v : Value} {n : Nat} {Q : List It} (h : w.ownsRow B 68 3 v n (itsV Q)) : ∃ a c, v = .slice a n c ∧ ItemsAt w a n w.heap.size Q := by
  have hl : Q.length = n := by have := h.1; rw [itsV_length] at this; omega
  rcases h.2 with ⟨rfl, h0⟩ | ⟨g, cap, cur, rfl, hg, hh, _⟩
  · subst h0
    exact ⟨none, 0, rfl, hl, fun j hj => by omega⟩
  · refine ⟨_, _, rfl, hl, fun j hj => ⟨g, 0, rfl, (h.lt g rfl).2, ?_, ?_, ?_⟩⟩
    · rw [Nat.zero_add, h.cellAt (j * 3) (by omega)]
      exact (itsV_at Q j hj).1
    · rw [Nat.zero_add, h.cellAt (j * 3 + 1) (by omega)]
      exact (itsV_at Q j hj).2.1
    · rw [Nat.zero_add, h.cellAt (j * 3 + 2) (by omega)]
      exact (itsV_at Q j hj).2.2

theorem own_lower {w : World} {B C e size n : Nat} {v : Value} {xs : List Value} (hB : C ≤ B) (h : w.ownsRow B e size v n xs) : w.ownsRow C e size v n xs := by
  obtain ⟨h1, h2⟩ := h
  refine ⟨h1, ?_⟩
  rcases h2 with h2 | ⟨g, cap, cur, a1, a2, a3⟩
  · exact .inl h2
  · exact .inr ⟨g, cap, cur, a1, Nat.le_trans hB a2, a3⟩

/-- A page that this call has made: its row its own. -/
def PageOwn (w : World) (B : Nat) (v : Value) (k : Int) (Q : List It) : Prop :=
  ∃ v1, v = .agg #[.int .i64 k, v1] ∧ w.ownsRow B 68 3 v1 Q.length (itsV Q)

theorem PageOwn.at {w : World} {B : Nat} {v : Value} {k : Int} {Q : List It} (h : PageOwn w B v k Q) : PageAt w v w.heap.size k Q := by
  obtain ⟨v1, rfl, h1⟩ := h
  obtain ⟨a', c', rfl, hQ⟩ := ItemsAt.of_own h1
  exact ⟨a', _, c', rfl, hQ⟩

theorem PageOwn.below {w w' : World} {B : Nat} {v : Value} {k : Int} {Q : List It} (h : PageOwn w B v k Q) (hb : Below w.heap.size w w') : PageOwn w' B v k Q := by
  obtain ⟨v1, rfl, h1⟩ := h
  exact ⟨v1, rfl, own_below h1 hb⟩

theorem cells_of_two {w : World} {g : Nat} {x y : Value} {t : TypeId} (h : w.heap[g]? = some (.cells #[x, y] t (0, 0))) :
    w.cell? ⟨g, 0, none⟩ = some x ∧ w.cell? ⟨g, 1, none⟩ = some y ∧ ∀ j, w.frozen? ⟨g, j, none⟩ = false := by
  refine ⟨?_, ?_, fun j => ?_⟩
  · rw [cell_of_row w g 0 _ t (0, 0) h]; rfl
  · rw [cell_of_row w g 1 _ t (0, 0) h]; rfl
  · exact frozen_of_row w g j _ t h

theorem two_zero {w : World} {g : Nat} {x y : Value} {t : TypeId} (h : w.heap[g]? = some (.cells #[x, y] t (0, 0))) (u : Value) :
    (w.setCell ⟨g, 0, none⟩ u).heap[g]? = some (.cells #[u, y] t (0, 0)) := heap_setCell_same w g 0 _ t u h

theorem two_one {w : World} {g : Nat} {x y : Value} {t : TypeId} (h : w.heap[g]? = some (.cells #[x, y] t (0, 0))) (u : Value) :
    (w.setCell ⟨g, 1, none⟩ u).heap[g]? = some (.cells #[x, u] t (0, 0)) := heap_setCell_same w g 1 _ t u h

/-- Two cells in a new block. -/
theorem below_new (w : World) (o : Obj) : Below w.heap.size w (w.alloc o) := (Below.refl _ _).alloc (Nat.le_refl _) _

end Pg
end Go.Proofs.Ytdmcnojhjmadjaa
