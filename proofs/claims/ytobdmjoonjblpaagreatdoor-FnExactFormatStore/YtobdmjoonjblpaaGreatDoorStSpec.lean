/-
  spec.FormatStore and impl.FormatStore.
-/
import Derived.Test.YtobdmjoonjblpaaGreatDoorStOpen
import Derived.Test.YtobdmjoonjblpaaGreatDoorDevNewImpl
import Derived.Test.YtobdmjoonjblpaaGreatDoorDevWriteImpl2
import Derived.Test.YtobdmjoonjblpaaGreatDoorDevFlushImpl
import Derived.Test.YtobdmjoonjblpaaGreatDoorRtImpl
namespace Go.Proofs.YtobdmjoonjblpaaGreatDoor
open Go.RowKit Rt

theorem fmt_no {x : Int} (h : ¬ (4 ≤ x ∧ x ≤ 400)) : fmtL x = [] ∧ fmtT x = 0 ∧ fmtOk x = false := by
  refine ⟨if_neg h, if_neg h, ?_⟩
  unfold fmtOk
  simp only [h, decide_false]

theorem fmt_yes {n : Nat} (h : 4 ≤ n) (h' : n ≤ 400) : fmtL (n : Int) = fmtN n ∧ fmtT (n : Int) = -1 ∧ fmtOk (n : Int) = true := by
  have h0 : 4 ≤ (n : Int) ∧ (n : Int) ≤ 400 := by omega
  refine ⟨?_, if_pos h0, ?_⟩
  · unfold fmtL
    rw [if_pos h0]
    simp
  · unfold fmtOk
    simp only [h0, and_self, decide_true]

theorem stNil (w : World) (B : Nat) : DevOwn w B (.agg #[.slice none 0 0, .slice none 0 0]) [] [] := devNil w B

set_option maxRecDepth 100000 in
set_option maxHeartbeats 2000000 in
theorem specFmt_no (x : Int) (h : ¬ (4 ≤ x ∧ x ≤ 400)) (w : World) :
    Calls Tryz.prog 9 #[.int .i64 x] w fun e w' => StPost w [] 0 false e w' := by
  have S1 := hide (fun w => specNew_any x w)
  by_cases h1 : 1 ≤ x ∧ x ≤ 400
  · have ho : newOk x = true := by unfold newOk; simp only [h1, and_self, decide_true]
    have hx : x < 4 := by omega
    rw [ho] at S1
    generalize newL x = L at S1
    clear h h1 ho
    go_enter Tryz.func9, Tryz.ntmps9
    go_wp2_with fail
    obtain ⟨V1, hV1⟩ : ∃ W, W = w.alloc (Obj.cells #[Value.slice none 0 0, Value.slice none 0 0, Value.slice none 0 0, Value.int .i64 0, Value.int .i64 0] 30) := ⟨_, rfl⟩
    rw [← hV1]
    have b1 : Below w.heap.size w V1 := by rw [hV1]; exact below_new _ _
    have s1 : SBox V1 w.heap.size (.slice none 0 0) (.slice none 0 0) 0 := by rw [hV1]; exact heap_alloc_new w _
    clear hV1
    refine (unhide S1 V1).mono ?_
    rintro e w2 ⟨⟨d, rfl, hd⟩, hb2⟩
    obtain ⟨a, n, c, a', n', c', rfl, _, _⟩ := hd.at
    have s2 := s1.below hb2
    have hb3 : Below w.heap.size w w2 := b1.trans (hb2.mono b1.size)
    have s3 := s2.below (below_new w2 (Obj.cells #[Value.slice a n c, Value.slice a' n' c'] 25))
    have HS3 := hide s3
    obtain ⟨t0, t1, t2, t3, t4⟩ := s3.cells
    have tf := s3.froz
    clear hd s1 s2 s3 b1 hb2
    go_wp2
    (try simp only [Exit.inBlock, Exit.then])
    refine bodyPost_ret (results_store Tryz.results9 _ _ w.heap.size _ _ _ rfl ((unhide HS3).all (.slice none 0 0) (.slice none 0 0) 0)) rfl ?_
    have hkk := set5_kept (w2.alloc (Obj.cells #[Value.slice a n c, Value.slice a' n' c'] 25)) w.heap.size (.slice none 0 0) (.slice none 0 0) 0
    have hb4 := hb3.alloc hb3.size (Obj.cells #[Value.slice a n c, Value.slice a' n' c'] 25)
    exact ⟨⟨_, _, rfl, stNil _ _⟩, hb4.trans (hkk.below hb4.size (fun i hi => by omega))⟩
  · have ho : newOk x = false := by unfold newOk; simp only [h1, decide_false]
    rw [ho] at S1
    generalize newL x = L at S1
    clear h h1 ho
    go_enter Tryz.func9, Tryz.ntmps9
    go_wp2_with fail
    obtain ⟨V1, hV1⟩ : ∃ W, W = w.alloc (Obj.cells #[Value.slice none 0 0, Value.slice none 0 0, Value.slice none 0 0, Value.int .i64 0, Value.int .i64 0] 30) := ⟨_, rfl⟩
    rw [← hV1]
    have b1 : Below w.heap.size w V1 := by rw [hV1]; exact below_new _ _
    have s1 : SBox V1 w.heap.size (.slice none 0 0) (.slice none 0 0) 0 := by rw [hV1]; exact heap_alloc_new w _
    clear hV1
    refine (unhide S1 V1).mono ?_
    rintro e w2 ⟨⟨d, rfl, hd⟩, hb2⟩
    obtain ⟨a, n, c, a', n', c', rfl, _, _⟩ := hd.at
    have s2 := s1.below hb2
    have hb3 : Below w.heap.size w w2 := b1.trans (hb2.mono b1.size)
    have s3 := s2.below (below_new w2 (Obj.cells #[Value.slice a n c, Value.slice a' n' c'] 25))
    have HS3 := hide s3
    obtain ⟨t0, t1, t2, t3, t4⟩ := s3.cells
    have tf := s3.froz
    clear hd s1 s2 s3 b1 hb2
    go_wp2
    (try simp only [Exit.inBlock, Exit.then])
    refine bodyPost_ret (results_store Tryz.results9 _ _ w.heap.size _ _ _ rfl ((unhide HS3).all (.slice none 0 0) (.slice none 0 0) 0)) rfl ?_
    have hkk := set5_kept (w2.alloc (Obj.cells #[Value.slice a n c, Value.slice a' n' c'] 25)) w.heap.size (.slice none 0 0) (.slice none 0 0) 0
    have hb4 := hb3.alloc hb3.size (Obj.cells #[Value.slice a n c, Value.slice a' n' c'] 25)
    exact ⟨⟨_, _, rfl, stNil _ _⟩, hb4.trans (hkk.below hb4.size (fun i hi => by omega))⟩

set_option maxRecDepth 100000 in
set_option maxHeartbeats 2000000 in
theorem implFmt_no (x : Int) (h : ¬ (4 ≤ x ∧ x ≤ 400)) (w : World) :
    Calls Tryz.prog 10 #[.int .i64 x] w fun e w' => StPost w [] 0 false e w' := by
  have S1 := hide (fun w => implNew_any x w)
  by_cases h1 : 1 ≤ x ∧ x ≤ 400
  · have ho : newOk x = true := by unfold newOk; simp only [h1, and_self, decide_true]
    have hx : x < 4 := by omega
    rw [ho] at S1
    generalize newL x = L at S1
    clear h h1 ho
    go_enter Tryz.func10, Tryz.ntmps10
    go_wp2_with fail
    obtain ⟨V1, hV1⟩ : ∃ W, W = w.alloc (Obj.cells #[Value.slice none 0 0, Value.slice none 0 0, Value.slice none 0 0, Value.int .i64 0, Value.int .i64 0] 30) := ⟨_, rfl⟩
    rw [← hV1]
    have b1 : Below w.heap.size w V1 := by rw [hV1]; exact below_new _ _
    have s1 : SBox V1 w.heap.size (.slice none 0 0) (.slice none 0 0) 0 := by rw [hV1]; exact heap_alloc_new w _
    clear hV1
    refine (unhide S1 V1).mono ?_
    rintro e w2 ⟨⟨d, rfl, hd⟩, hb2⟩
    obtain ⟨a, n, c, a', n', c', rfl, _, _⟩ := hd.at
    have s2 := s1.below hb2
    have hb3 : Below w.heap.size w w2 := b1.trans (hb2.mono b1.size)
    have s3 := s2.below (below_new w2 (Obj.cells #[Value.slice a n c, Value.slice a' n' c'] 25))
    have HS3 := hide s3
    obtain ⟨t0, t1, t2, t3, t4⟩ := s3.cells
    have tf := s3.froz
    clear hd s1 s2 s3 b1 hb2
    go_wp2
    (try simp only [Exit.inBlock, Exit.then])
    refine bodyPost_ret (results_store Tryz.results10 _ _ w.heap.size _ _ _ rfl ((unhide HS3).all (.slice none 0 0) (.slice none 0 0) 0)) rfl ?_
    have hkk := set5_kept (w2.alloc (Obj.cells #[Value.slice a n c, Value.slice a' n' c'] 25)) w.heap.size (.slice none 0 0) (.slice none 0 0) 0
    have hb4 := hb3.alloc hb3.size (Obj.cells #[Value.slice a n c, Value.slice a' n' c'] 25)
    exact ⟨⟨_, _, rfl, stNil _ _⟩, hb4.trans (hkk.below hb4.size (fun i hi => by omega))⟩
  · have ho : newOk x = false := by unfold newOk; simp only [h1, decide_false]
    rw [ho] at S1
    generalize newL x = L at S1
    clear h h1 ho
    go_enter Tryz.func10, Tryz.ntmps10
    go_wp2_with fail
    obtain ⟨V1, hV1⟩ : ∃ W, W = w.alloc (Obj.cells #[Value.slice none 0 0, Value.slice none 0 0, Value.slice none 0 0, Value.int .i64 0, Value.int .i64 0] 30) := ⟨_, rfl⟩
    rw [← hV1]
    have b1 : Below w.heap.size w V1 := by rw [hV1]; exact below_new _ _
    have s1 : SBox V1 w.heap.size (.slice none 0 0) (.slice none 0 0) 0 := by rw [hV1]; exact heap_alloc_new w _
    clear hV1
    refine (unhide S1 V1).mono ?_
    rintro e w2 ⟨⟨d, rfl, hd⟩, hb2⟩
    obtain ⟨a, n, c, a', n', c', rfl, _, _⟩ := hd.at
    have s2 := s1.below hb2
    have hb3 : Below w.heap.size w w2 := b1.trans (hb2.mono b1.size)
    have s3 := s2.below (below_new w2 (Obj.cells #[Value.slice a n c, Value.slice a' n' c'] 25))
    have HS3 := hide s3
    obtain ⟨t0, t1, t2, t3, t4⟩ := s3.cells
    have tf := s3.froz
    clear hd s1 s2 s3 b1 hb2
    go_wp2
    (try simp only [Exit.inBlock, Exit.then])
    refine bodyPost_ret (results_store Tryz.results10 _ _ w.heap.size _ _ _ rfl ((unhide HS3).all (.slice none 0 0) (.slice none 0 0) 0)) rfl ?_
    have hkk := set5_kept (w2.alloc (Obj.cells #[Value.slice a n c, Value.slice a' n' c'] 25)) w.heap.size (.slice none 0 0) (.slice none 0 0) 0
    have hb4 := hb3.alloc hb3.size (Obj.cells #[Value.slice a n c, Value.slice a' n' c'] 25)
    exact ⟨⟨_, _, rfl, stNil _ _⟩, hb4.trans (hkk.below hb4.size (fun i hi => by omega))⟩

end Go.Proofs.YtobdmjoonjblpaaGreatDoor
