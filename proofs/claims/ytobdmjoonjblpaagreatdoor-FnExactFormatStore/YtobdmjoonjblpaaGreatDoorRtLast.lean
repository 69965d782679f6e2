/-
  The later root of a device; the contract of spec.LastRoot.
-/
import Derived.Test.YtobdmjoonjblpaaGreatDoorRtRead
import Derived.Test.YtobdmjoonjblpaaGreatDoorDevRead
import Derived.Deep.DeepCutAuto
namespace Go.Proofs.YtobdmjoonjblpaaGreatDoor
namespace Rt
open Go.RowKit

/-- The two numbers and the flag of what a text tells. -/
def rootS (x : ByteArray) : Int := ((rootA x).map Prod.fst).getD 0
def rootR (x : ByteArray) : Int := ((rootA x).map Prod.snd).getD 0
def rootF (x : ByteArray) : Bool := (rootA x).isSome

theorem rootV_eq (x : ByteArray) : rootV x = .tuple #[.agg #[.int .i64 (rootS x), .int .i64 (rootR x)], .bool (rootF x)] := by
  unfold rootV rootS rootR rootF
  cases rootA x with
  | none => rfl
  | some p => rfl

/-- What LastRoot tells of two texts. -/
def lastV (x y : ByteArray) : Value :=
  if rootF x = false ∧ rootF y = false then .tuple #[.agg #[.int .i64 0, .int .i64 0], .int .i64 0, .bool false]
  else if rootF x = false ∨ rootF y = true ∧ rootS x < rootS y then .tuple #[.agg #[.int .i64 (rootS y), .int .i64 (rootR y)], .int .i64 1, .bool true]
  else .tuple #[.agg #[.int .i64 (rootS x), .int .i64 (rootR x)], .int .i64 0, .bool true]

theorem results_root3 {fn : Func} {p u v : Tmp} (h : fn.results = #[.cell p 28, .tmp u, .tmp v]) (tmps : Array Value) (w : World) (g : Nat) (a b : Int) (hp : tmps.getD p undef = .pointer (some ⟨g, 0, none⟩)) (hg : RBox w g a b) :
    (results fn tmps).run Tryz.prog w = .ok (.tuple #[.agg #[.int .i64 a, .int .i64 b], tmps.getD u undef, tmps.getD v undef]) w := by
  have hr := run_loadVar_row (P := Tryz.prog) w g 28 28 #[.int .i64 a, .int .i64 b] (0, 0) _ hg Tryz.underlying28 rfl (by kernel_rfl)
  have hp' : tmps[p]?.getD undef = .pointer (some ⟨g, 0, none⟩) := by simpa using hp
  simp only [results, h]
  simp [Result.andThen, hp', asAddr, hr]

set_option maxRecDepth 100000 in
set_option maxHeartbeats 2000000 in
theorem specLast_any (v : Value) (B : Nat) (L : List ByteArray) (Q : List (Int × ByteArray)) (h1 : L.length ≤ 1048576) (h2 : Q.length ≤ 1048576) (hm : ∀ s ∈ L, s.size ≤ 9223372036854775807) (w : World) (hB : B ≤ w.heap.size) (hv : DevAt w v B L Q) :
    Calls Tryz.prog 52 #[v] w fun e w' => e = .returned (lastV (readA L Q 0).1 (readA L Q 1).1) ∧ Below w.heap.size w w' := by
  have RS0 := hide (fun w1 (hb : Below w.heap.size w w1) => specSector_any v B 0 L Q h1 h2 hm w1 (Nat.le_trans hB hb.size) (hv.below hb hB))
  have RS1 := hide (fun w1 (hb : Below w.heap.size w w1) => specSector_any v B 1 L Q h1 h2 hm w1 (Nat.le_trans hB hb.size) (hv.below hb hB))
  obtain ⟨a, n, c, a', n', c', rfl, _, _⟩ := hv
  generalize (readA L Q 0).1 = x at RS0
  generalize (readA L Q 1).1 = y at RS1
  generalize (readA L Q 0).2 = fx at RS0
  generalize (readA L Q 1).2 = fy at RS1
  have RX := hide (fun w => specReadRoot_any x w)
  have RY := hide (fun w => specReadRoot_any y w)
  rw [rootV_eq] at RX RY
  have HV : Hid (lastV x y = if rootF x = false ∧ rootF y = false then .tuple #[.agg #[.int .i64 0, .int .i64 0], .int .i64 0, .bool false]
    else if rootF x = false ∨ rootF y = true ∧ rootS x < rootS y then .tuple #[.agg #[.int .i64 (rootS y), .int .i64 (rootR y)], .int .i64 1, .bool true]
    else .tuple #[.agg #[.int .i64 (rootS x), .int .i64 (rootR x)], .int .i64 0, .bool true]) := rfl
  generalize lastV x y = r at HV
  generalize rootS x = s1 at RX HV
  generalize rootR x = t1 at RX HV
  generalize rootF x = f1 at RX HV
  generalize rootS y = s2 at RY HV
  generalize rootR y = t2 at RY HV
  generalize rootF y = f2 at RY HV
  clear h1 h2 hm
  go_enter Tryz.func52, Tryz.ntmps52
  go_wp2_with fail
  obtain ⟨W1, hW1⟩ : ∃ W, W = (w.alloc (Obj.cells #[Value.slice a n c, Value.slice a' n' c'] 25)).alloc (Obj.cells #[Value.int .i64 0, Value.int .i64 0] 28) := ⟨_, rfl⟩
  have d1 : W1.heap[w.heap.size]? = some (.cells #[Value.slice a n c, Value.slice a' n' c'] 25 (0, 0)) := by rw [hW1]; exact ((below_new1 _ _).block _ (by simp)).trans (heap_alloc_new w _)
  have r1 : RBox W1 (w.heap.size + 1) 0 0 := by
    rw [hW1]
    have h := heap_alloc_new (w.alloc (Obj.cells #[Value.slice a n c, Value.slice a' n' c'] 25)) (Obj.cells #[Value.int .i64 0, Value.int .i64 0] 28)
    rw [World.size_alloc] at h
    exact h
  have hb1 : Below w.heap.size w W1 := by rw [hW1]; exact ((Below.refl _ _).alloc (Nat.le_refl _) _).alloc (by simp) _
  have hs1 : w.heap.size + 1 < W1.heap.size := by rw [hW1]; simp
  rw [← hW1]
  clear hW1
  refine (unhide RS0 W1 hb1).mono ?_
  rintro e w2 ⟨rfl, hb2⟩
  have d2 := (hb2.block _ (by omega)).trans d1
  have r2 : RBox w2 (w.heap.size + 1) 0 0 := (hb2.block _ hs1).trans r1
  have hc2 := hb1.trans (hb2.mono hb1.size)
  have hs2 : w.heap.size + 1 < w2.heap.size := Nat.lt_of_lt_of_le hs1 hb2.size
  obtain ⟨p0, p1, _⟩ := cells_of_two d2
  clear d1 r1 hb2 hb1 hs1
  go_wp2_with fail
  refine (unhide RS1 w2 hc2).mono ?_
  rintro e w3 ⟨rfl, hb3⟩
  have HR3 : Hid (RBox w3 (w.heap.size + 1) 0 0) := (hb3.block _ hs2).trans r2
  have hc3 := hc2.trans (hb3.mono hc2.size)
  have hs3 : w.heap.size + 1 < w3.heap.size := Nat.lt_of_lt_of_le hs2 hb3.size
  clear d2 r2 hb3 hc2 hs2 p0 p1
  go_wp2_with fail
  refine (unhide RX w3).mono ?_
  rintro e w4 ⟨rfl, hb4⟩
  have HR4 : Hid (RBox w4 (w.heap.size + 1) 0 0) := (hb4.block _ hs3).trans (unhide HR3)
  have hc4 := hc3.trans (hb4.mono hc3.size)
  have hs4 : w.heap.size + 1 < w4.heap.size := Nat.lt_of_lt_of_le hs3 hb4.size
  clear hb4 hc3 hs3 HR3
  go_wp2_with fail
  obtain ⟨W4, hW4⟩ : ∃ W, W = w4.alloc (Obj.cells #[Value.int .i64 s1, Value.int .i64 t1] 28) := ⟨_, rfl⟩
  have HX4 : Hid (RBox W4 w4.heap.size s1 t1) := by show RBox _ _ _ _; rw [hW4]; exact heap_alloc_new w4 _
  have HR4' : Hid (RBox W4 (w.heap.size + 1) 0 0) := by show RBox _ _ _ _; rw [hW4]; exact ((below_new1 _ _).block _ hs4).trans (unhide HR4)
  have hc4' : Below w.heap.size w W4 := by rw [hW4]; exact hc4.alloc hc4.size _
  have hs4' : w4.heap.size < W4.heap.size := by rw [hW4]; simp
  rw [← hW4]
  clear hW4 HR4 hc4
  refine (unhide RY W4).mono ?_
  rintro e w5 ⟨rfl, hb5⟩
  have HX5 : Hid (RBox w5 w4.heap.size s1 t1) := (hb5.block _ hs4').trans (unhide HX4)
  have HR5 : Hid (RBox w5 (w.heap.size + 1) 0 0) := (hb5.block _ (by omega)).trans (unhide HR4')
  have hc5 := hc4'.trans (hb5.mono hc4'.size)
  have hs5 : w4.heap.size < w5.heap.size := Nat.lt_of_lt_of_le hs4' hb5.size
  clear hb5 HX4 HR4' hc4' hs4'
  obtain ⟨W5, hW5⟩ : ∃ W, W = w5.alloc (Obj.cells #[Value.int .i64 s2, Value.int .i64 t2] 28) := ⟨_, rfl⟩
  have y6 : RBox W5 w5.heap.size s2 t2 := by rw [hW5]; exact heap_alloc_new w5 _
  have x6 : RBox W5 w4.heap.size s1 t1 := by rw [hW5]; exact ((below_new1 _ _).block _ hs5).trans (unhide HX5)
  have r6 : RBox W5 (w.heap.size + 1) 0 0 := by rw [hW5]; exact ((below_new1 _ _).block _ (by omega)).trans (unhide HR5)
  have hc6 : Below w.heap.size w W5 := by rw [hW5]; exact hc5.alloc hc5.size _
  go_upto_region 5 with fail
  rw [← hW5]
  clear hW5 HX5 HR5 hc5
  obtain ⟨q0, q1, _⟩ := cells_of_two x6
  obtain ⟨u0, u1, _⟩ := cells_of_two y6
  obtain ⟨t0, t1', tf⟩ := cells_of_two r6
  have tf0 := tf 0
  have tf1 := tf 1
  have HR6 := hide r6
  clear x6 y6 r6 tf
  cases f1
  · cases f2
    · have HRR : Hid (r = .tuple #[.agg #[.int .i64 0, .int .i64 0], .int .i64 0, .bool false]) := by show _ = _; rw [unhide HV]; simp
      clear HV
      go_wp2
      (try simp only [Exit.inBlock, Exit.then])
      refine bodyPost_ret (results_root3 Tryz.results52 _ _ (w.heap.size + 1) _ _ rfl ((unhide HR6).two _ _)) rfl ?_
      exact ⟨by rw [unhide HRR]; rfl, (hc6.setCell (p := ⟨w.heap.size + 1, 0, none⟩) (by simp) _).setCell (p := ⟨w.heap.size + 1, 1, none⟩) (by simp) _⟩
    · have HRR : Hid (r = .tuple #[.agg #[.int .i64 s2, .int .i64 t2], .int .i64 1, .bool true]) := by show _ = _; rw [unhide HV]; simp
      clear HV
      go_wp2
      (try simp only [Exit.inBlock, Exit.then])
      refine bodyPost_ret (results_root3 Tryz.results52 _ _ (w.heap.size + 1) _ _ rfl ((unhide HR6).two _ _)) rfl ?_
      exact ⟨by rw [unhide HRR]; rfl, (hc6.setCell (p := ⟨w.heap.size + 1, 0, none⟩) (by simp) _).setCell (p := ⟨w.heap.size + 1, 1, none⟩) (by simp) _⟩
  · cases f2
    · have HRR : Hid (r = .tuple #[.agg #[.int .i64 s1, .int .i64 t1], .int .i64 0, .bool true]) := by show _ = _; rw [unhide HV]; simp
      clear HV
      go_wp2
      (try simp only [Exit.inBlock, Exit.then])
      refine bodyPost_ret (results_root3 Tryz.results52 _ _ (w.heap.size + 1) _ _ rfl ((unhide HR6).two _ _)) rfl ?_
      exact ⟨by rw [unhide HRR]; rfl, (hc6.setCell (p := ⟨w.heap.size + 1, 0, none⟩) (by simp) _).setCell (p := ⟨w.heap.size + 1, 1, none⟩) (by simp) _⟩
    · by_cases hlt : s1 < s2
      · have hlt1 := hlt
        have HRR : Hid (r = .tuple #[.agg #[.int .i64 s2, .int .i64 t2], .int .i64 1, .bool true]) := by show _ = _; rw [unhide HV]; simp [hlt]
        clear HV
        go_wp2
        (try simp only [Exit.inBlock, Exit.then])
        refine bodyPost_ret (results_root3 Tryz.results52 _ _ (w.heap.size + 1) _ _ rfl ((unhide HR6).two _ _)) rfl ?_
        exact ⟨by rw [unhide HRR]; rfl, (hc6.setCell (p := ⟨w.heap.size + 1, 0, none⟩) (by simp) _).setCell (p := ⟨w.heap.size + 1, 1, none⟩) (by simp) _⟩
      · have hlt1 := hlt
        have HRR : Hid (r = .tuple #[.agg #[.int .i64 s1, .int .i64 t1], .int .i64 0, .bool true]) := by show _ = _; rw [unhide HV]; simp [hlt]
        clear HV
        go_wp2
        (try simp only [Exit.inBlock, Exit.then])
        refine bodyPost_ret (results_root3 Tryz.results52 _ _ (w.heap.size + 1) _ _ rfl ((unhide HR6).two _ _)) rfl ?_
        exact ⟨by rw [unhide HRR]; rfl, (hc6.setCell (p := ⟨w.heap.size + 1, 0, none⟩) (by simp) _).setCell (p := ⟨w.heap.size + 1, 1, none⟩) (by simp) _⟩
end Rt
end Go.Proofs.YtobdmjoonjblpaaGreatDoor
