/-
  The contracts of spec.l03In and spec.CrashDevice.
-/
import Derived.Test.YtfbfafpfhgjdfaaDevFlush
namespace Go.Proofs.Ytfbfafpfhgjdfaa
open Go.RowKit

/-- A row of numbers that can be read, below block B. -/
def IntsAt (w : World) (a : Option Addr) (len B : Nat) (K : List Int) : Prop :=
  K.length = len ∧ ∀ j (h : j < K.length), ∃ b off, a = some ⟨b, off, none⟩ ∧ b < B ∧ w.cell? ⟨b, off + j, none⟩ = some (.int .i64 K[j])

theorem IntsAt.below {w w' : World} {a : Option Addr} {len B C : Nat} {K : List Int} (h : IntsAt w a len B K) (hb : Below C w w') (hC : B ≤ C) : IntsAt w' a len B K := by
  refine ⟨h.1, fun j hj => ?_⟩
  obtain ⟨b, off, e, hbB, hc⟩ := h.2 j hj
  exact ⟨b, off, e, hbB, by rw [hb.cell (p := ⟨b, off + j, none⟩) (by simp; omega)]; exact hc⟩

/-- Whether a number is on a list. -/
def inK (K : List Int) (x : Int) : Bool := K.contains x

theorem inK_take_succ (K : List Int) (x : Int) (k : Nat) (h : k < K.length) (hno : inK (K.take k) x = false) (hk : (K[k] == x) = false) : inK (K.take (k + 1)) x = false := by
  unfold inK at *
  rw [List.take_succ_eq_append_getElem h, List.contains_eq_any_beq, List.any_append]
  rw [List.contains_eq_any_beq] at hno
  have hk' : (x == K[k]) = false := by rw [BEq.comm]; exact hk
  simp only [hno, List.any_cons, List.any_nil, hk', Bool.or_false]

theorem inK_of_mem {K : List Int} {x : Int} (h : x ∈ K) : inK K x = true := by unfold inK; rw [List.contains_iff_mem]; exact h

set_option maxRecDepth 100000 in
set_option maxHeartbeats 1000000 in
theorem l03In_any (a : Option Addr) (n c B : Nat) (K : List Int) (x : Int) (hn : n ≤ 1048576) (w : World) (hK : IntsAt w a n B K) :
    Calls Try.prog 62 #[.slice a n c, .int .i64 x] w fun e w' => e = .returned (.bool (inK K x)) ∧ w' = w := by
  obtain ⟨hL, hc⟩ := hK
  have HC := hide hc
  have HN := hide hL
  clear hc hL
  go_enter Try.func62, Try.ntmps62
  go_wp2_with fail
  go_loop [5] (fun i => ∃ k : Nat, i = .int .i64 k ∧ k ≤ n ∧ Hid (inK (K.take k) x = false)) (fun i => n - (intOf i).toNat)
  case atStart => exact ⟨0, rfl, Nat.zero_le _, rfl⟩
  case round =>
    obtain ⟨k, rfl, hk, hall⟩ := hrel
    by_cases hlt : k < n
    · have hkL : k < K.length := by have := unhide HN; omega
      obtain ⟨b, off, rfl, hbB, hcell⟩ := unhide HC k hkL
      have hx0 : (0 : Int) ≤ (k : Int) := by omega
      have hx1 : (k : Int) < (n : Int) := by omega
      have HS := hide (inK_take_succ K x k hkL (unhide hall))
      have HM := hide (List.getElem_mem hkL)
      generalize K[k] = y at hcell HS HM
      cases hq : (y == x)
      · go_wp2
        go_round
        case rel => exact ⟨k + 1, by go_num, by omega, unhide HS hq⟩
        case measure => simp [intOf]; omega
      · have HE : Hid (inK K x = true) := by
          show _ = _
          have e : y = x := by simpa using hq
          exact inK_of_mem (e ▸ unhide HM)
        go_wp2
        go_ret
        exact ⟨by rw [unhide HE]; rfl, rfl⟩
    · have HE : Hid (inK K x = false) := by
        have h := unhide hall
        rw [List.take_of_length_le (by have := unhide HN; omega)] at h
        exact h
      go_wp2
      go_ret
      exact ⟨by rw [unhide HE]; rfl, rfl⟩

/-- The sectors once the first j of the puts are done whose places are in K. -/
def keepL (K : List Int) (L : List ByteArray) (Q : List (Int × ByteArray)) : Nat → List ByteArray
  | 0 => L
  | j + 1 => if inK K (j : Int) = true then (keepL K L Q j).set (Q.getD j (0, ⟨#[]⟩)).1.toNat (Q.getD j (0, ⟨#[]⟩)).2 else keepL K L Q j

theorem keepL_length (K : List Int) (L : List ByteArray) (Q : List (Int × ByteArray)) (j : Nat) : (keepL K L Q j).length = L.length := by
  induction j with
  | zero => rfl
  | succ j ih =>
    unfold keepL
    split
    · rw [List.length_set, ih]
    · exact ih

theorem keepL_yes (K : List Int) (L : List ByteArray) (Q : List (Int × ByteArray)) (j : Nat) (h : j < Q.length) (hk : inK K (j : Int) = true) : keepL K L Q (j + 1) = (keepL K L Q j).set Q[j].1.toNat Q[j].2 := by
  rw [keepL, if_pos hk]
  simp [h]

theorem keepL_no (K : List Int) (L : List ByteArray) (Q : List (Int × ByteArray)) (j : Nat) (hk : inK K (j : Int) = false) : keepL K L Q (j + 1) = keepL K L Q j := by
  rw [keepL, if_neg (by rw [hk]; simp)]

theorem keepL_size {K : List Int} {L : List ByteArray} {Q : List (Int × ByteArray)} (hL : ∀ s ∈ L, s.size ≤ 64) (hQ : ∀ q ∈ Q, q.2.size ≤ 64) (j : Nat) : ∀ s ∈ keepL K L Q j, s.size ≤ 64 := by
  induction j with
  | zero => exact hL
  | succ j ih =>
    intro s hs
    unfold keepL at hs
    split at hs
    · rcases List.mem_or_eq_of_mem_set hs with h | h
      · exact ih s h
      · rw [h]
        rcases Nat.lt_or_ge j Q.length with hj | hj
        · have e : Q.getD j (0, ⟨#[]⟩) = Q[j] := by simp [hj]
          rw [e]
          exact hQ _ (List.getElem_mem hj)
        · have e : Q.getD j (0, ⟨#[]⟩) = (0, ⟨#[]⟩) := by simp [hj]
          rw [e]
          show (0 : Nat) ≤ 64
          omega
    · exact ih s hs

/-- The first part bytes of a text, and behind these what stands behind so many bytes of a sector. -/
def tearT (t s : ByteArray) (part : Nat) : ByteArray := t.extract 0 (min part t.size) ++ s.extract (min part s.size) s.size

theorem tearT_size (t s : ByteArray) (part : Nat) (ht : t.size ≤ 64) (hs : s.size ≤ 64) : (tearT t s part).size ≤ 128 := by
  unfold tearT
  simp [ByteArray.size_append]
  omega

/-- What a crash leaves. -/
def crashL (L : List ByteArray) (Q : List (Int × ByteArray)) (K : List Int) (torn : Int) (part : Nat) : List ByteArray :=
  if 0 ≤ torn ∧ torn < (Q.length : Int) ∧ inK K torn = false then
    (keepL K L Q Q.length).set (Q.getD torn.toNat (0, ⟨#[]⟩)).1.toNat (tearT (Q.getD torn.toNat (0, ⟨#[]⟩)).2 ((keepL K L Q Q.length).getD (Q.getD torn.toNat (0, ⟨#[]⟩)).1.toNat ⟨#[]⟩) part)
  else keepL K L Q Q.length

theorem crashL_length (L : List ByteArray) (Q : List (Int × ByteArray)) (K : List Int) (torn : Int) (part : Nat) : (crashL L Q K torn part).length = L.length := by
  unfold crashL
  split
  · rw [List.length_set, keepL_length]
  · exact keepL_length _ _ _ _

def crOk (L : List ByteArray) (Q : List (Int × ByteArray)) (part : Int) : Bool := devOk L Q && (decide (0 ≤ part) && decide (part ≤ 64))
def crA (L : List ByteArray) (Q : List (Int × ByteArray)) (K : List Int) (torn part : Int) : List ByteArray := if crOk L Q part = true then crashL L Q K torn part.toNat else []

theorem crA_length (L : List ByteArray) (Q : List (Int × ByteArray)) (K : List Int) (torn part : Int) : (crA L Q K torn part).length ≤ L.length := by
  unfold crA
  split
  · rw [crashL_length]; exact Nat.le_refl _
  · simp
end Go.Proofs.Ytfbfafpfhgjdfaa
