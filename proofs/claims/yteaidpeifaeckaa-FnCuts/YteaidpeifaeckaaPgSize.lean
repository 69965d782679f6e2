/-
  The contracts of spec.ItemSize and impl.ItemSize, for items of at most 2^20 bytes.
-/
import Derived.Test.YteaidpeifaeckaaPgFns
namespace Go.Proofs.Yteaidpeifaeckaa
namespace Pg
open Go.RowKit

/-- An item as a value. -/
def itV (x : It) : Value := .agg #[.string x.key, .string x.val, .int .i64 x.pg]

set_option maxRecDepth 100000 in
set_option maxHeartbeats 1000000 in
theorem specSize_one (x : It) (ha : x.key.size ≤ 1048576) (hb : x.val.size ≤ 1048576) (w : World) :
    Calls Try.prog 7 #[.int .i64 1, itV x] w fun e w' => e = .returned (.int .i64 ((itSize 1 x : Nat) : Int)) ∧ Below w.heap.size w w' := by
  have HA := hide (fun w => l04Short_any x.key (by omega) w)
  have HB := hide (fun w => l04Short_any x.val (by omega) w)
  have h1 := shortB_bd x.key
  have h2 := shortB_bd x.val
  have HE := hide (itSize_one x)
  obtain ⟨a, b, p⟩ := x
  simp only [itV] at *
  generalize shortB a = sa at HA h1 HE
  generalize shortB b = sb at HB h2 HE
  have h3 : sa.size ≤ 1048581 := by omega
  have h4 : sb.size ≤ 1048581 := by omega
  have hwr : IntKind.i64.wrap ((sa.size : Int) + (sb.size : Int)) = (sa.size : Int) + (sb.size : Int) := IntWalk.i64_in _ ⟨by omega, by omega⟩
  clear h1 h2 ha hb
  go_enter Try.func7, Try.ntmps7
  go_wp2_with fail
  obtain ⟨W1, hW1⟩ : ∃ W, W = w.alloc (Obj.cells #[Value.string a, Value.string b, Value.int .i64 p] 30) := ⟨_, rfl⟩
  rw [← hW1]
  have hb1 : Below w.heap.size w W1 := by rw [hW1]; exact (Below.refl _ _).alloc (Nat.le_refl _) _
  have hs1 : w.heap.size < W1.heap.size := by rw [hW1]; simp
  have c0 : W1.cell? ⟨w.heap.size, 0, none⟩ = some (.string a) := by rw [hW1]; simp [go_sem]
  have c1 : W1.cell? ⟨w.heap.size, 1, none⟩ = some (.string b) := by rw [hW1]; simp [go_sem]
  clear hW1
  go_region_held3 (fun u => u.cell? ⟨w.heap.size, 0, none⟩ = some (.string a) ∧ u.cell? ⟨w.heap.size, 1, none⟩ = some (.string b))
    (first | go_keep | exact ⟨d0, d1⟩ | exact ⟨f0, f1⟩)
    (first
      | (go_at_call 15; refine (unhide HA _).mono ?_; rintro e w2 ⟨rfl, hb2⟩; have d0 := (hb2.cell (p := ⟨w.heap.size, 0, none⟩) hs1).trans c0; have d1 := (hb2.cell (p := ⟨w.heap.size, 1, none⟩) hs1).trans c1)
      | (go_at_call 15; refine (unhide HB _).mono ?_; rintro e w3 ⟨rfl, hb3⟩; have f0 := (hb3.cell (p := ⟨w.heap.size, 0, none⟩) (Nat.lt_of_lt_of_le hs1 hb2.size)).trans d0; have f1 := (hb3.cell (p := ⟨w.heap.size, 1, none⟩) (Nat.lt_of_lt_of_le hs1 hb2.size)).trans d1))
  have hbe : Below w.heap.size w w3 := hb1.drew.trans ((hb2.trans (hb3.mono hb2.size)).mono hb1.size)
  clear hb1 hb2 hb3 c0 c1 d0 d1 f0 f1
  go_wp2
  go_ret
  refine ⟨?_, hbe⟩
  rw [unhide HE]
  simp

set_option maxRecDepth 100000 in
set_option maxHeartbeats 1000000 in
theorem specSize_two (x : It) (ha : x.key.size ≤ 1048576) (w : World) :
    Calls Try.prog 7 #[.int .i64 2, itV x] w fun e w' => e = .returned (.int .i64 ((itSize 2 x : Nat) : Int)) ∧ Below w.heap.size w w' := by
  have HA := hide (fun w => l04Short_any x.key (by omega) w)
  have h1 := shortB_bd x.key
  have HE := hide (itSize_two x)
  have h2 := varT_size x.pg
  obtain ⟨a, b, p⟩ := x
  simp only [itV] at *
  generalize shortB a = sa at HA h1 HE
  have h3 : sa.size ≤ 1048581 := by omega
  clear h1 ha
  by_cases hp : 0 ≤ p ∧ p ≤ 1000000000
  · obtain ⟨n, rfl⟩ := Int.eq_ofNat_of_zero_le hp.1
    have hv := specVar_yes n (by omega)
    have e := varT_nat (n := n) (by omega)
    rw [e] at h2 HE
    generalize (ByteArray.mk (varB 4 n).toArray) = t at hv h2 HE
    have HV := hide hv
    clear hv e hp
    go_enter Try.func7, Try.ntmps7
    go_wp2_with fail
    obtain ⟨W1, hW1⟩ : ∃ W, W = w.alloc (Obj.cells #[Value.string a, Value.string b, Value.int .i64 (n : Int)] 30) := ⟨_, rfl⟩
    rw [← hW1]
    have hb1 : Below w.heap.size w W1 := by rw [hW1]; exact (Below.refl _ _).alloc (Nat.le_refl _) _
    have hs1 : w.heap.size < W1.heap.size := by rw [hW1]; simp
    have c0 : W1.cell? ⟨w.heap.size, 0, none⟩ = some (.string a) := by rw [hW1]; simp [go_sem]
    clear hW1
    refine (unhide HV _).mono ?_
    rintro e w2 ⟨rfl, hb2⟩
    have d0 := (hb2.cell (p := ⟨w.heap.size, 0, none⟩) hs1).trans c0
    have hbe : Below w.heap.size w w2 := hb1.trans (hb2.mono hb1.size)
    clear hb1 hb2 c0
    go_wp2_with fail
    refine (unhide HA _).mono ?_
    rintro e w3 ⟨rfl, hb3⟩
    have hbf : Below w.heap.size w w3 := hbe.trans (hb3.mono hbe.size)
    clear hb3 hbe d0
    go_wp2
    go_ret
    refine ⟨?_, hbf⟩
    rw [unhide HE]
    simp
  · have HV := hide (specVar_no p (by omega))
    rw [varT_no hp] at HE
    clear hp h2
    go_enter Try.func7, Try.ntmps7
    go_wp2_with fail
    obtain ⟨W1, hW1⟩ : ∃ W, W = w.alloc (Obj.cells #[Value.string a, Value.string b, Value.int .i64 p] 30) := ⟨_, rfl⟩
    rw [← hW1]
    have hb1 : Below w.heap.size w W1 := by rw [hW1]; exact (Below.refl _ _).alloc (Nat.le_refl _) _
    have c0 : W1.cell? ⟨w.heap.size, 0, none⟩ = some (.string a) := by rw [hW1]; simp [go_sem]
    clear hW1
    refine (unhide HV _).mono ?_
    rintro e w2 ⟨rfl, rfl⟩
    go_wp2_with fail
    refine (unhide HA _).mono ?_
    rintro e w3 ⟨rfl, hb3⟩
    have hbf := hb1.trans (hb3.mono hb1.size)
    clear hb3 hb1 c0
    go_wp2
    go_ret
    refine ⟨?_, hbf⟩
    rw [unhide HE, show (ByteArray.mk #[]).size = 0 from rfl]
    simp

theorem specSize_no (k : Int) (h1 : k ≠ 1) (h2 : k ≠ 2) (x : It) (w : World) :
    Calls Try.prog 7 #[.int .i64 k, itV x] w fun e w' => e = .returned (.int .i64 ((itSize k x : Nat) : Int)) ∧ Below w.heap.size w w' := by
  have e1 : (k == 1) = false := by simp [h1]
  have e2 : (k == 2) = false := by simp [h2]
  rw [itSize_other h1 h2]
  unfold itV
  go_enter Try.func7, Try.ntmps7
  go_wp2
  go_ret
  exact ⟨rfl, (Below.refl _ _).alloc (Nat.le_refl _) _⟩

theorem specSize_any (k : Int) (x : It) (ha : x.key.size ≤ 1048576) (hb : x.val.size ≤ 1048576) (w : World) :
    Calls Try.prog 7 #[.int .i64 k, itV x] w fun e w' => e = .returned (.int .i64 ((itSize k x : Nat) : Int)) ∧ Below w.heap.size w w' := by
  by_cases h1 : k = 1
  · subst h1; exact specSize_one x ha hb w
  · by_cases h2 : k = 2
    · subst h2; exact specSize_two x ha w
    · exact specSize_no k h1 h2 x w

theorem leafSize_any (x : It) (hb : x.val.size ≤ 1048576) (w : World) :
    Calls Try.prog 58 #[.agg #[], itV x] w fun e w' => e = .returned (.int .i64 ((restT 1 x).size : Int)) ∧ Below w.heap.size w w' := by
  have HB := hide (fun w => shortSize_any x.val (by omega) w)
  obtain ⟨a, b, p⟩ := x
  rw [show restT 1 ⟨a, b, p⟩ = shortB b from if_pos rfl]
  simp only [itV] at *
  generalize shortB b = sb at HB
  go_enter Try.func58, Try.ntmps58
  go_wp2_with fail
  refine (unhide HB _).mono ?_
  rintro e w2 ⟨rfl, hb2⟩
  go_wp2
  go_ret
  exact ⟨rfl, (((Below.refl _ _).alloc (Nat.le_refl _) _).alloc (by simp) _).trans (hb2.mono (by simp; omega))⟩

theorem innerSize_any (x : It) (w : World) :
    Calls Try.prog 61 #[.agg #[], itV x] w fun e w' => e = .returned (.int .i64 ((restT 2 x).size : Int)) ∧ Below w.heap.size w w' := by
  have HB := hide (fun w => varForm_any x.pg w)
  obtain ⟨a, b, p⟩ := x
  rw [show restT 2 ⟨a, b, p⟩ = varT p from (if_neg (by omega)).trans (if_pos rfl)]
  simp only [itV] at *
  generalize varT p = sb at HB
  go_enter Try.func61, Try.ntmps61
  go_wp2_with fail
  refine (unhide HB _).mono ?_
  rintro e w2 ⟨rfl, hb2⟩
  go_wp2
  go_ret
  exact ⟨rfl, (((Below.refl _ _).alloc (Nat.le_refl _) _).alloc (by simp) _).trans (hb2.mono (by simp; omega))⟩

theorem meth_leafSize (w : World) : (method 197 72 (.agg #[]) "loop.example/g00105/impl.restSize").run Try.prog w = .ok (58, .agg #[]) w := by kernel_rfl
theorem meth_innerSize (w : World) : (method 197 73 (.agg #[]) "loop.example/g00105/impl.restSize").run Try.prog w = .ok (61, .agg #[]) w := by kernel_rfl

set_option maxRecDepth 100000 in
set_option maxHeartbeats 1000000 in
theorem sizeIn_one (x : It) (ha : x.key.size ≤ 1048576) (hb : x.val.size ≤ 1048576) (w : World) :
    Calls Try.prog 33 #[.iface 72 (.agg #[]), itV x] w fun e w' => e = .returned (.int .i64 ((itSize 1 x : Nat) : Int)) ∧ Below w.heap.size w w' := by
  have HA := hide (fun w => shortSize_any x.key (by omega) w)
  have HB := hide (fun w => leafSize_any x hb w)
  have h1 := shortB_bd x.key
  have h2 := shortB_bd x.val
  have HE := hide (itSize_one x)
  have e2 : restT 1 x = shortB x.val := if_pos rfl
  rw [e2] at HB
  have hm := meth_leafSize
  obtain ⟨a, b, p⟩ := x
  simp only [itV] at *
  generalize shortB a = sa at HA h1 HE
  generalize shortB b = sb at HB h2 HE
  have h3 : sa.size ≤ 1048581 := by omega
  have h4 : sb.size ≤ 1048581 := by omega
  have hwr : IntKind.i64.wrap ((sa.size : Int) + (sb.size : Int)) = (sa.size : Int) + (sb.size : Int) := IntWalk.i64_in _ ⟨by omega, by omega⟩
  clear h1 h2 ha e2 hb
  go_enter Try.func33, Try.ntmps33
  go_wp2_with fail
  obtain ⟨W1, hW1⟩ : ∃ W, W = w.alloc (Obj.cells #[Value.string a, Value.string b, Value.int .i64 p] 30) := ⟨_, rfl⟩
  rw [← hW1]
  have hb1 : Below w.heap.size w W1 := by rw [hW1]; exact (Below.refl _ _).alloc (Nat.le_refl _) _
  have hs1 : w.heap.size < W1.heap.size := by rw [hW1]; simp
  have c0 : W1.cell? ⟨w.heap.size, 0, none⟩ = some (.string a) := by rw [hW1]; simp [go_sem]
  have c1 : W1.cell? ⟨w.heap.size, 1, none⟩ = some (.string b) := by rw [hW1]; simp [go_sem]
  have c2 : W1.cell? ⟨w.heap.size, 2, none⟩ = some (.int .i64 p) := by rw [hW1]; simp [go_sem]
  clear hW1
  go_region_held3 (fun u => u.cell? ⟨w.heap.size, 0, none⟩ = some (.string a) ∧ u.cell? ⟨w.heap.size, 1, none⟩ = some (.string b) ∧ u.cell? ⟨w.heap.size, 2, none⟩ = some (.int .i64 p))
    (first | go_keep | exact ⟨d0, d1, d2⟩ | exact ⟨f0, f1, f2⟩)
    (first
      | (go_at_call 35; refine (unhide HA _).mono ?_; rintro e w2 ⟨rfl, hb2⟩; have d0 := (hb2.cell (p := ⟨w.heap.size, 0, none⟩) hs1).trans c0; have d1 := (hb2.cell (p := ⟨w.heap.size, 1, none⟩) hs1).trans c1; have d2 := (hb2.cell (p := ⟨w.heap.size, 2, none⟩) hs1).trans c2)
      | (go_at_call 58; refine (unhide HB _).mono ?_; rintro e w3 ⟨rfl, hb3⟩; have f0 := (hb3.cell (p := ⟨w.heap.size, 0, none⟩) (Nat.lt_of_lt_of_le hs1 hb2.size)).trans d0; have f1 := (hb3.cell (p := ⟨w.heap.size, 1, none⟩) (Nat.lt_of_lt_of_le hs1 hb2.size)).trans d1; have f2 := (hb3.cell (p := ⟨w.heap.size, 2, none⟩) (Nat.lt_of_lt_of_le hs1 hb2.size)).trans d2))
  have hbe : Below w.heap.size w w3 := hb1.drew.trans ((hb2.trans (hb3.mono hb2.size)).mono hb1.size)
  clear hb1 hb2 hb3 c0 c1 d0 d1 f0 f1 c2 d2 f2
  go_wp2
  go_ret
  refine ⟨?_, hbe⟩
  rw [unhide HE]
  simp

set_option maxRecDepth 100000 in
set_option maxHeartbeats 1000000 in
theorem sizeIn_two (x : It) (ha : x.key.size ≤ 1048576) (w : World) :
    Calls Try.prog 33 #[.iface 73 (.agg #[]), itV x] w fun e w' => e = .returned (.int .i64 ((itSize 2 x : Nat) : Int)) ∧ Below w.heap.size w w' := by
  have HA := hide (fun w => shortSize_any x.key (by omega) w)
  have HB := hide (fun w => innerSize_any x w)
  have h1 := shortB_bd x.key
  have h2 := varT_size x.pg
  have HE := hide (itSize_two x)
  have e2 : restT 2 x = varT x.pg := (if_neg (by omega)).trans (if_pos rfl)
  rw [e2] at HB
  have hm := meth_innerSize
  obtain ⟨a, b, p⟩ := x
  simp only [itV] at *
  generalize shortB a = sa at HA h1 HE
  generalize varT p = sb at HB h2 HE
  have h3 : sa.size ≤ 1048581 := by omega
  have h4 : sb.size ≤ 1048581 := by omega
  have hwr : IntKind.i64.wrap ((sa.size : Int) + (sb.size : Int)) = (sa.size : Int) + (sb.size : Int) := IntWalk.i64_in _ ⟨by omega, by omega⟩
  clear h1 h2 ha e2
  go_enter Try.func33, Try.ntmps33
  go_wp2_with fail
  obtain ⟨W1, hW1⟩ : ∃ W, W = w.alloc (Obj.cells #[Value.string a, Value.string b, Value.int .i64 p] 30) := ⟨_, rfl⟩
  rw [← hW1]
  have hb1 : Below w.heap.size w W1 := by rw [hW1]; exact (Below.refl _ _).alloc (Nat.le_refl _) _
  have hs1 : w.heap.size < W1.heap.size := by rw [hW1]; simp
  have c0 : W1.cell? ⟨w.heap.size, 0, none⟩ = some (.string a) := by rw [hW1]; simp [go_sem]
  have c1 : W1.cell? ⟨w.heap.size, 1, none⟩ = some (.string b) := by rw [hW1]; simp [go_sem]
  have c2 : W1.cell? ⟨w.heap.size, 2, none⟩ = some (.int .i64 p) := by rw [hW1]; simp [go_sem]
  clear hW1
  go_region_held3 (fun u => u.cell? ⟨w.heap.size, 0, none⟩ = some (.string a) ∧ u.cell? ⟨w.heap.size, 1, none⟩ = some (.string b) ∧ u.cell? ⟨w.heap.size, 2, none⟩ = some (.int .i64 p))
    (first | go_keep | exact ⟨d0, d1, d2⟩ | exact ⟨f0, f1, f2⟩)
    (first
      | (go_at_call 35; refine (unhide HA _).mono ?_; rintro e w2 ⟨rfl, hb2⟩; have d0 := (hb2.cell (p := ⟨w.heap.size, 0, none⟩) hs1).trans c0; have d1 := (hb2.cell (p := ⟨w.heap.size, 1, none⟩) hs1).trans c1; have d2 := (hb2.cell (p := ⟨w.heap.size, 2, none⟩) hs1).trans c2)
      | (go_at_call 61; refine (unhide HB _).mono ?_; rintro e w3 ⟨rfl, hb3⟩; have f0 := (hb3.cell (p := ⟨w.heap.size, 0, none⟩) (Nat.lt_of_lt_of_le hs1 hb2.size)).trans d0; have f1 := (hb3.cell (p := ⟨w.heap.size, 1, none⟩) (Nat.lt_of_lt_of_le hs1 hb2.size)).trans d1; have f2 := (hb3.cell (p := ⟨w.heap.size, 2, none⟩) (Nat.lt_of_lt_of_le hs1 hb2.size)).trans d2))
  have hbe : Below w.heap.size w w3 := hb1.drew.trans ((hb2.trans (hb3.mono hb2.size)).mono hb1.size)
  clear hb1 hb2 hb3 c0 c1 d0 d1 f0 f1 c2 d2 f2
  go_wp2
  go_ret
  refine ⟨?_, hbe⟩
  rw [unhide HE]
  simp

theorem implSize_one (x : It) (ha : x.key.size ≤ 1048576) (hb : x.val.size ≤ 1048576) (w : World) :
    Calls Try.prog 29 #[.int .i64 1, itV x] w fun e w' => e = .returned (.int .i64 ((itSize 1 x : Nat) : Int)) ∧ Below w.heap.size w w' := by
  have HA := hide (fun w => sizeIn_one x ha hb w)
  obtain ⟨a, b, p⟩ := x
  simp only [itV] at *
  clear ha hb
  go_enter Try.func29, Try.ntmps29
  go_wp2_with fail
  refine (kindOf_one _).mono ?_
  rintro e w1 ⟨rfl, rfl⟩
  go_wp2_with fail
  refine (unhide HA _).mono ?_
  rintro e w2 ⟨rfl, hb2⟩
  have hbe : Below w.heap.size w w2 := ((Below.refl _ _).alloc (Nat.le_refl _) _).trans (hb2.mono (by simp))
  clear hb2
  go_wp2
  go_ret
  exact ⟨rfl, hbe⟩

theorem implSize_two (x : It) (ha : x.key.size ≤ 1048576) (w : World) :
    Calls Try.prog 29 #[.int .i64 2, itV x] w fun e w' => e = .returned (.int .i64 ((itSize 2 x : Nat) : Int)) ∧ Below w.heap.size w w' := by
  have HA := hide (fun w => sizeIn_two x ha w)
  obtain ⟨a, b, p⟩ := x
  simp only [itV] at *
  clear ha
  go_enter Try.func29, Try.ntmps29
  go_wp2_with fail
  refine (kindOf_two _).mono ?_
  rintro e w1 ⟨rfl, rfl⟩
  go_wp2_with fail
  refine (unhide HA _).mono ?_
  rintro e w2 ⟨rfl, hb2⟩
  have hbe : Below w.heap.size w w2 := ((Below.refl _ _).alloc (Nat.le_refl _) _).trans (hb2.mono (by simp))
  clear hb2
  go_wp2
  go_ret
  exact ⟨rfl, hbe⟩

theorem implSize_no (k : Int) (h1 : k ≠ 1) (h2 : k ≠ 2) (x : It) (w : World) :
    Calls Try.prog 29 #[.int .i64 k, itV x] w fun e w' => e = .returned (.int .i64 ((itSize k x : Nat) : Int)) ∧ Below w.heap.size w w' := by
  rw [itSize_other h1 h2]
  have HK := hide (kindOf_no k h1 h2)
  unfold itV
  clear h1 h2
  go_enter Try.func29, Try.ntmps29
  go_wp2_with fail
  refine (unhide HK _).mono ?_
  rintro e w1 ⟨rfl, rfl⟩
  go_wp2
  go_ret
  exact ⟨rfl, (Below.refl _ _).alloc (Nat.le_refl _) _⟩

theorem implSize_any (k : Int) (x : It) (ha : x.key.size ≤ 1048576) (hb : x.val.size ≤ 1048576) (w : World) :
    Calls Try.prog 29 #[.int .i64 k, itV x] w fun e w' => e = .returned (.int .i64 ((itSize k x : Nat) : Int)) ∧ Below w.heap.size w w' := by
  by_cases h1 : k = 1
  · subst h1; exact implSize_one x ha hb w
  · by_cases h2 : k = 2
    · subst h2; exact implSize_two x ha w
    · exact implSize_no k h1 h2 x w
end Pg
end Go.Proofs.Yteaidpeifaeckaa
