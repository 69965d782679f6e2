/-
 IntsAt.
-/
import Derived.Test.YtkjclkelnheheaaProg
import Derived.Test.YtkjclkelnheheaaJ1
import Derived.Handy
namespace Go.Proofs.Ytkjclkelnheheaa
open Go.RowKit
def IntsAt (w : World) (a : Option Addr) (len B : Nat) (K : List Int) : Prop :=
  K.length = len ∧ ∀ j (h : j < K.length), ∃ b off, a = some ⟨b, off, none⟩ ∧ b < B ∧ w.cell? ⟨b, off + j, none⟩ = some (.int .i64 K[j])
theorem IntsAt.below {w w' : World} {a : Option Addr} {len B C : Nat} {K : List Int} (h : IntsAt w a len B K) (hb : Below C w w') (hC : B ≤ C) : IntsAt w' a len B K := by
  refine ⟨h.1, fun j hj => ?_⟩
  obtain ⟨b, off, e, hbB, hc⟩ := h.2 j hj
  exact ⟨b, off, e, hbB, by rw [hb.cell (p := ⟨b, off + j, none⟩) (by simp; omega)]; exact hc⟩
def inK (K : List Int) (x : Int) : Bool := K.contains x
theorem inK_take_succ (K : List Int) (x : Int) (k : Nat) (h : k < K.length) (hno : inK (K.take k) x = false) (hk : (K[k] == x) = false) : inK (K.take (k + 1)) x = false := by
  unfold inK at *
  rw [List.take_succ_eq_append_getElem h, List.contains_eq_any_beq, List.any_append]
  rw [List.contains_eq_any_beq] at hno
  have hk' : (x == K[k]) = false := by rw [BEq.comm]; exact hk
  simp only [hno, List.any_cons, List.any_nil, hk', Bool.or_false]
theorem inK_of_mem {K : List Int} {x : Int} (h : x ∈ K) : inK K x = true := by unfold inK; rw [List.contains_iff_mem]; exact h
set_option maxRecDepth 100000 in
set_option maxHeartbeats 1000000 in
theorem l03In_any (a : Option Addr) (n c B : Nat) (K : List Int) (x : Int) (hn : n ≤ 1048576) (w : World) (hK : IntsAt w a n B K) :
    Calls Try.prog 44 #[.slice a n c, .int .i64 x] w fun e w' => e = .returned (.bool (inK K x)) ∧ w' = w := by
  obtain ⟨hL, hc⟩ := hK
  have HC := hide hc
  have HN := hide hL
  clear hc hL
  go_enter Try.func44, Try.ntmps44
  go_wp2_with fail
  go_loop [5] (fun i => ∃ k : Nat, i = .int .i64 k ∧ k ≤ n ∧ Hid (inK (K.take k) x = false)) (fun i => n - (intOf i).toNat)
  case atStart => exact ⟨0, rfl, Nat.zero_le _, rfl⟩
  case round =>
    obtain ⟨k, rfl, hk, hall⟩ := hrel
    by_cases hlt : k < n
    · have hkL : k < K.length := by have := unhide HN; omega
      obtain ⟨b, off, rfl, hbB, hcell⟩ := unhide HC k hkL
      have hx0 : (0 : Int) ≤ (k : Int) := by omega
      have hx1 : (k : Int) < (n : Int) := by omega
      have HS := hide (inK_take_succ K x k hkL (unhide hall))
      have HM := hide (List.getElem_mem hkL)
      generalize K[k] = y at hcell HS HM
      cases hq : (y == x)
      · go_wp2
        go_round
        case rel => exact ⟨k + 1, by go_num, by omega, unhide HS hq⟩
        case measure => simp [intOf]; omega
      · have HE : Hid (inK K x = true) := by
          show _ = _
          have e : y = x := by simpa using hq
          exact inK_of_mem (e ▸ unhide HM)
        go_wp2
        go_ret
        exact ⟨by rw [unhide HE]; rfl, rfl⟩
    · have HE : Hid (inK K x = false) := by
        have h := unhide hall
        rw [List.take_of_length_le (by have := unhide HN; omega)] at h
        exact h
      go_wp2
      go_ret
      exact ⟨by rw [unhide HE]; rfl, rfl⟩
end Go.Proofs.Ytkjclkelnheheaa
