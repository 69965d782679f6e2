/-
  The contracts of the specification's Sealed and Unsealed, for every text.
-/
import Derived.Test.YtobdmjoonjblpaaGreatDoorFour
namespace Go.Proofs.YtobdmjoonjblpaaGreatDoor
open Go.RowKit

def sumB (s : ByteArray) : Nat := sumN 4294967295 s.data.toList
def fourB (x : Nat) : ByteArray := ⟨(four x).toArray⟩
/-- A text and its four bytes. -/
def sealB (s : ByteArray) : ByteArray := s ++ fourB (sumB s)

theorem sumB_lt (s : ByteArray) : sumB s < 4294967296 := sumN_lt _ (by omega)

theorem specSealed_no (s : ByteArray) (h : (8000 : Int) < (s.size : Int)) (w : World) :
    Calls Tryz.prog 86 #[.string s] w fun e w' => e = .returned (.tuple #[.string ⟨#[]⟩, .bool false]) ∧ w' = w := by
  go_enter Tryz.func86, Tryz.ntmps86
  go_wp2
  go_ret2
  exact ⟨rfl, rfl⟩

set_option maxRecDepth 100000 in
set_option maxHeartbeats 1000000 in
theorem specSealed_yes (s : ByteArray) (h : s.size ≤ 8000) (w : World) :
    Calls Tryz.prog 86 #[.string s] w fun e w' => e = .returned (.tuple #[.string (sealB s), .bool true]) ∧ Below w.heap.size w w' := by
  have H1 := hide (fun w => specSumOf_any s (by omega) w)
  have H2 := hide (fun w => four_any (sumB s) (sumB_lt s) w)
  have hn : ¬ (8000 : Int) < (s.size : Int) := by omega
  have hl : (four (sumB s)).length = 4 := rfl
  go_enter Tryz.func86, Tryz.ntmps86
  go_wp2_with fail
  refine (unhide H1 _).mono ?_
  rintro e w1 ⟨rfl, rfl⟩
  go_wp2_with fail
  refine (unhide H2 _).mono ?_
  rintro e w2 ⟨rfl, hb⟩
  go_wp2
  go_ret2
  exact ⟨rfl, hb⟩

theorem toList_inj {v f : ByteArray} (h : v.toList = f.toList) : v = f := by
  have h2 : v.data.toList = f.data.toList := by rw [← ByteArray.toList_eq, ← ByteArray.toList_eq]; exact h
  cases v; cases f; simp_all [Array.toList_inj]

theorem specUnsealed_short (s : ByteArray) (h : s.size < 4) (w : World) :
    Calls Tryz.prog 153 #[.string s] w fun e w' => e = .returned (.tuple #[.string ⟨#[]⟩, .bool false]) ∧ Below w.heap.size w w' := by
  have hx : (s.size : Int) < 4 := by omega
  have hy : decide ((s.size : Int) - 4 < 0) = true := by simp; omega
  go_enter Tryz.func153, Tryz.ntmps153
  go_wp2_with fail
  go_quiet (fail)
  go_wp2
  go_ret2
  exact ⟨rfl, below_drewN (Below.refl _ _) _⟩

theorem specUnsealed_long (s : ByteArray) (h : 8004 < s.size) (hs : s.size ≤ 140737488355328) (w : World) :
    Calls Tryz.prog 153 #[.string s] w fun e w' => e = .returned (.tuple #[.string ⟨#[]⟩, .bool false]) ∧ Below w.heap.size w w' := by
  have hx : (8004 : Int) < (s.size : Int) := by omega
  have hy : decide ((s.size : Int) - 4 < 0) = false := by simp; omega
  have hz : decide ((8000 : Int) < (s.size : Int) - 4) = true := by simp; omega
  go_enter Tryz.func153, Tryz.ntmps153
  go_wp2_with fail
  go_quiet (fail)
  go_wp2
  go_ret2
  exact ⟨rfl, below_drewN (Below.refl _ _) _⟩

/-- What Unsealed answers to a text of 4 to 8004 bytes. -/
def unOut (u v f : ByteArray) : Value := if v = f then .tuple #[.string u, .bool true] else .tuple #[.string ⟨#[]⟩, .bool false]
def unsealOut (s : ByteArray) : Value := unOut (s.extract 0 (s.size - 4)) (s.extract (s.size - 4) s.size) (fourB (sumB (s.extract 0 (s.size - 4))))

theorem unOut_yes {u v f : ByteArray} (h : v = f) : unOut u v f = .tuple #[.string u, .bool true] := if_pos h
theorem unOut_no {u v f : ByteArray} (h : v ≠ f) : unOut u v f = .tuple #[.string ⟨#[]⟩, .bool false] := if_neg h

set_option maxRecDepth 100000 in
set_option maxHeartbeats 1000000 in
theorem specUnsealed_walk (s u v f : ByteArray) (S : Nat) (h : 4 ≤ s.size) (h2 : s.size ≤ 8004) (w : World)
    (H1 : Hid (∀ w, Calls Tryz.prog 126 #[.string u] w fun e w' => e = .returned (.int .u32 (S : Int)) ∧ w' = w))
    (H2 : Hid (∀ w, Calls Tryz.prog 125 #[.int .u32 (S : Int)] w fun e w' => e = .returned (.string f) ∧ Below w.heap.size w w'))
    (hs1 : ∀ w, (Instr.slice 9 (.string s) (some (.int .i64 ((s.size : Int) - 4))) none none).run Tryz.prog w = .ok (.string v) w)
    (hs2 : ∀ w, (Instr.slice 9 (.string s) none (some (.int .i64 ((s.size : Int) - 4))) none).run Tryz.prog w = .ok (.string u) w) :
    Calls Tryz.prog 153 #[.string s] w fun e w' => e = .returned (unOut u v f) ∧ Below w.heap.size w w' := by
  have hy : decide ((s.size : Int) - 4 < 0) = false := by simp; omega
  have hz : decide ((8000 : Int) < (s.size : Int) - 4) = false := by simp; omega
  go_enter Tryz.func153, Tryz.ntmps153
  go_wp2_with fail
  go_region_held3 (fun _ => True) (go_keep)
    (first
      | (go_at_call 126; refine (unhide H1 _).mono ?_; rintro e w1 ⟨rfl, rfl⟩)
      | (go_at_call 125; refine (unhide H2 _).mono ?_; rintro e w1 ⟨rfl, hb1⟩))
  cases hq : (v.toList == f.toList)
  · have hne : v ≠ f := fun e => by rw [e] at hq; simp at hq
    have E := hide (unOut_no (u := u) hne)
    clear hne
    go_wp2
    go_ret2
    rw [unhide E]
    exact ⟨rfl, (Below.refl _ _).drew.trans hb1⟩
  · have he : v = f := toList_inj (eq_of_beq hq)
    have E := hide (unOut_yes (u := u) he)
    clear he
    go_wp2
    go_ret2
    rw [unhide E]
    exact ⟨rfl, (Below.refl _ _).drew.trans hb1⟩

theorem specUnsealed_mid (s : ByteArray) (h : 4 ≤ s.size) (h2 : s.size ≤ 8004) (w : World) :
    Calls Tryz.prog 153 #[.string s] w fun e w' => e = .returned (unsealOut s) ∧ Below w.heap.size w w' := by
  have e4 : ((s.size : Int) - 4).toNat = s.size - 4 := by omega
  refine specUnsealed_walk s (s.extract 0 (s.size - 4)) (s.extract (s.size - 4) s.size) (fourB (sumB (s.extract 0 (s.size - 4)))) (sumB (s.extract 0 (s.size - 4))) h h2 w ?_ ?_ ?_ ?_
  · exact fun w => specSumOf_any _ (by simp; omega) w
  · exact fun w => four_any _ (sumB_lt _) w
  · intro u
    have h := run_slice_string_from_if (P := Tryz.prog) u 9 s .i64 ((s.size : Int) - 4) Tryz.underlying9
    rw [if_pos ⟨by omega, by omega⟩, e4] at h
    exact h
  · intro u
    have h := run_slice_string_to_if (P := Tryz.prog) u 9 s .i64 ((s.size : Int) - 4) Tryz.underlying9
    rw [if_pos ⟨by omega, by omega⟩, e4] at h
    exact h

/-- What Unsealed answers. -/
def unsealA (s : ByteArray) : Value := if 4 ≤ s.size ∧ s.size ≤ 8004 then unsealOut s else .tuple #[.string ⟨#[]⟩, .bool false]

theorem specUnsealed_any (s : ByteArray) (hs : s.size ≤ 140737488355328) (w : World) :
    Calls Tryz.prog 153 #[.string s] w fun e w' => e = .returned (unsealA s) ∧ Below w.heap.size w w' := by
  unfold unsealA
  split
  · rename_i h
    exact specUnsealed_mid s h.1 h.2 w
  · rename_i h
    by_cases h4 : s.size < 4
    · exact specUnsealed_short s h4 w
    · exact specUnsealed_long s (by omega) hs w

/-- What Sealed answers. -/
def sealA (s : ByteArray) : Value := if s.size ≤ 8000 then .tuple #[.string (sealB s), .bool true] else .tuple #[.string ⟨#[]⟩, .bool false]

theorem specSealed_any (s : ByteArray) (w : World) :
    Calls Tryz.prog 86 #[.string s] w fun e w' => e = .returned (sealA s) ∧ Below w.heap.size w w' := by
  unfold sealA
  split
  · rename_i h
    exact specSealed_yes s h w
  · rename_i h
    exact (specSealed_no s (by omega) w).mono fun e w' hw => ⟨hw.1, hw.2 ▸ Below.refl _ _⟩
end Go.Proofs.YtobdmjoonjblpaaGreatDoor
