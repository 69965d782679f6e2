/-
  What a seal tells of a root; the contract of impl.ReadRoot.
-/
import Derived.Test.YtobdmjoonjblpaaGreatDoorRtImpl
import Derived.Test.YtobdmjoonjblpaaGreatDoorRtTrip
import Derived.Test.YtobdmjoonjblpaaGreatDoorTurn
import Derived.Test.YtobdmjoonjblpaaGreatDoorUnsealImpl
namespace Go.Proofs.YtobdmjoonjblpaaGreatDoor
namespace Rt
open Go.RowKit

/-- What Unsealed tells. -/
def unS (s : ByteArray) : Option ByteArray :=
  if 4 ≤ s.size ∧ s.size ≤ 8004 ∧ s.extract (s.size - 4) s.size = fourB (sumB (s.extract 0 (s.size - 4))) then some (s.extract 0 (s.size - 4)) else none

theorem unsealA_none {s : ByteArray} (h : unS s = none) : unsealA s = .tuple #[.string ⟨#[]⟩, .bool false] := by
  unfold unS at h
  unfold unsealA
  split at h
  · simp at h
  · rename_i hn
    split
    · rename_i h4
      unfold unsealOut
      rw [unOut_no (fun e => hn ⟨h4.1, h4.2, e⟩)]
    · rfl

theorem unsealA_some {s u : ByteArray} (h : unS s = some u) : unsealA s = .tuple #[.string u, .bool true] ∧ u = s.extract 0 (s.size - 4) ∧ 4 ≤ s.size := by
  unfold unS at h
  split at h
  · rename_i hn
    simp at h
    subst h
    refine ⟨?_, rfl, hn.1⟩
    unfold unsealA
    rw [if_pos ⟨hn.1, hn.2.1⟩]
    unfold unsealOut
    rw [unOut_yes hn.2.2]
  · simp at h

theorem rootA_none_of_unS {x : ByteArray} (h : unS x = none) : rootA x = none := by
  cases hr : rootA x with
  | none => rfl
  | some p =>
    obtain ⟨s, t⟩ := p
    obtain ⟨_, rfl⟩ := rootA_text hr
    have h1 := unsealA_none h
    rw [unsealA_back _ (by rw [rootB_size]; omega)] at h1
    simp at h1

theorem rootA_none_of_size {x : ByteArray} (h : x.size ≠ 11) : rootA x = none := by
  unfold rootA
  rw [if_neg (fun e => h e.1)]

theorem byteI_extract (x : ByteArray) (a b i : Nat) (hb : b ≤ x.size) (hi : a + i < b) : byteI (x.extract a b) i = byteI x (a + i) := by
  have h1 : i < (x.extract a b).size := by rw [ByteArray.size_extract]; omega
  have h2 : a + i < x.size := by omega
  unfold byteI
  rw [dif_pos h1, dif_pos h2]
  congr 1
  exact ByteArray.getElem_extract h1

theorem ser_numN {x : ByteArray} (h : x.size = 11) : numN ((x.extract 0 7).extract 1 5) 4 = serN x 4 := by
  have hs : (x.extract 0 7).size = 7 := by rw [ByteArray.size_extract]; omega
  have e : ∀ i, i < 4 → byteI ((x.extract 0 7).extract 1 5) i = byteI x (i + 1) := fun i hi => by
    rw [byteI_extract _ 1 5 i (by omega) (by omega), byteI_extract _ 0 7 (1 + i) (by omega) (by omega)]
    congr 1
    omega
  simp only [numN, serN, e 0 (by omega), e 1 (by omega), e 2 (by omega), e 3 (by omega)]

theorem tre_numN {x : ByteArray} (h : x.size = 11) : numN ((x.extract 0 7).extract 5 7) 2 = treN x := by
  have hs : (x.extract 0 7).size = 7 := by rw [ByteArray.size_extract]; omega
  have e : ∀ i, i < 2 → byteI ((x.extract 0 7).extract 5 7) i = byteI x (5 + i) := fun i hi => by
    rw [byteI_extract _ 5 7 i (by omega) (by omega), byteI_extract _ 0 7 (5 + i) (by omega) (by omega)]
    congr 1
    omega
  simp only [numN, treN, e 0 (by omega), e 1 (by omega)]
  show 256 * (256 * 0 + byteI x 5) + byteI x 6 = 256 * byteI x 5 + byteI x 6
  omega

set_option maxRecDepth 100000 in
set_option maxHeartbeats 1000000 in
theorem implReadRoot_none (x : ByteArray) (hx : x.size ≤ 140737488355328) (hu : unS x = none) (w : World) :
    Calls Tryz.prog 191 #[.string x] w fun e w' => e = .returned (rootV x) ∧ Below w.heap.size w w' := by
  rw [rootV_none (rootA_none_of_unS hu)]
  have HU := hide (fun w => implUnsealed_any x hx w)
  rw [unsealA_none hu] at HU
  clear hu hx
  go_enter Tryz.func191, Tryz.ntmps191
  go_wp2_with fail
  obtain ⟨W, hW⟩ : ∃ W, W = w.alloc (Obj.cells #[Value.int .i64 0, Value.int .i64 0] 28) := ⟨_, rfl⟩
  have hr : RBox W w.heap.size 0 0 := by rw [hW]; exact heap_alloc_new w _
  have hb : Below w.heap.size w W := by rw [hW]; exact below_new1 _ _
  have hs : w.heap.size < W.heap.size := by rw [hW]; simp
  rw [← hW]
  clear hW
  refine (unhide HU _).mono ?_
  rintro e w2 ⟨rfl, hb2⟩
  have s0 : RBox w2 w.heap.size 0 0 := (hb2.block _ hs).trans hr
  have hb3 := hb.trans (hb2.mono hb.size)
  obtain ⟨t0, t1, tf⟩ := cells_of_two s0
  have tf0 := tf 0
  have tf1 := tf 1
  have HS0 := hide s0
  clear s0 tf hb2 hb hr
  go_wp2
  (try simp only [Exit.inBlock, Exit.then])
  refine bodyPost_ret (results_root Tryz.results191 _ _ w.heap.size _ _ rfl ((unhide HS0).two _ _)) rfl ?_
  exact ⟨rfl, (hb3.setCell (p := ⟨w.heap.size, 0, none⟩) (by simp) _).setCell (p := ⟨w.heap.size, 1, none⟩) (by simp) _⟩

set_option maxRecDepth 100000 in
set_option maxHeartbeats 1000000 in
theorem implReadRoot_other (x u : ByteArray) (hx : x.size ≤ 140737488355328) (hu : unS x = some u) (h7 : u.size ≠ 7) (w : World) :
    Calls Tryz.prog 191 #[.string x] w fun e w' => e = .returned (rootV x) ∧ Below w.heap.size w w' := by
  obtain ⟨hua, hue, h4⟩ := unsealA_some hu
  have hn : x.size ≠ 11 := fun h => h7 (by rw [hue, ByteArray.size_extract]; omega)
  rw [rootV_none (rootA_none_of_size hn)]
  have HU := hide (fun w => implUnsealed_any x hx w)
  rw [hua] at HU
  have h77 : ((u.size : Int) == 7) = false := by simp; omega
  have h78 : ¬ ((u.size : Int) = 7) := by omega
  clear hu hx hua hue h4 hn h7
  go_enter Tryz.func191, Tryz.ntmps191
  go_wp2_with fail
  obtain ⟨W, hW⟩ : ∃ W, W = w.alloc (Obj.cells #[Value.int .i64 0, Value.int .i64 0] 28) := ⟨_, rfl⟩
  have hr : RBox W w.heap.size 0 0 := by rw [hW]; exact heap_alloc_new w _
  have hb : Below w.heap.size w W := by rw [hW]; exact below_new1 _ _
  have hs : w.heap.size < W.heap.size := by rw [hW]; simp
  rw [← hW]
  clear hW
  refine (unhide HU _).mono ?_
  rintro e w2 ⟨rfl, hb2⟩
  have s0 : RBox w2 w.heap.size 0 0 := (hb2.block _ hs).trans hr
  have hb3 := hb.trans (hb2.mono hb.size)
  obtain ⟨t0, t1, tf⟩ := cells_of_two s0
  have tf0 := tf 0
  have tf1 := tf 1
  have HS0 := hide s0
  clear s0 tf hb2 hb hr
  go_wp2
  (try simp only [Exit.inBlock, Exit.then])
  refine bodyPost_ret (results_root Tryz.results191 _ _ w.heap.size _ _ rfl ((unhide HS0).two _ _)) rfl ?_
  exact ⟨rfl, (hb3.setCell (p := ⟨w.heap.size, 0, none⟩) (by simp) _).setCell (p := ⟨w.heap.size, 1, none⟩) (by simp) _⟩

end Rt
end Go.Proofs.YtobdmjoonjblpaaGreatDoor
