/-
  Texts of this claim, one behind the other: RtRImpl, RtRImpl2.
-/
import Derived.Test.YtjhnippfepbjmaaGreatDoorJ32
import Derived.Test.YtjhnippfepbjmaaGreatDoorJ28
import Derived.Test.YtjhnippfepbjmaaGreatDoorJ26
import Derived.Test.YtjhnippfepbjmaaGreatDoorJ33

/-
  What a seal tells of a root; the contract of impl.ReadRoot.
-/
namespace Go.Proofs.YtjhnippfepbjmaaGreatDoor
namespace Rt
open Go.RowKit

/-- What Unsealed tells. -/
def unS (s : ByteArray) : Option ByteArray :=
  if 4 ≤ s.size ∧ s.size ≤ 8004 ∧ s.extract (s.size - 4) s.size = fourB (sumB (s.extract 0 (s.size - 4))) then some (s.extract 0 (s.size - 4)) else none

theorem unsealA_none {s : ByteArray} (h : unS s = none) : unsealA s = .tuple #[.string ⟨#[]⟩, .bool false] := by
  unfold unS at h
  unfold unsealA
  split at h
  · simp at h
  · rename_i hn
    split
    · rename_i h4
      unfold unsealOut
      rw [unOut_no (fun e => hn ⟨h4.1, h4.2, e⟩)]
    · rfl

theorem unsealA_some {s u : ByteArray} (h : unS s = some u) : unsealA s = .tuple #[.string u, .bool true] ∧ u = s.extract 0 (s.size - 4) ∧ 4 ≤ s.size := by
  unfold unS at h
  split at h
  · rename_i hn
    simp at h
    subst h
    refine ⟨?_, rfl, hn.1⟩
    unfold unsealA
    rw [if_pos ⟨hn.1, hn.2.1⟩]
    unfold unsealOut
    rw [unOut_yes hn.2.2]
  · simp at h

theorem rootA_none_of_unS {x : ByteArray} (h : unS x = none) : rootA x = none := by
  cases hr : rootA x with
  | none => rfl
  | some p =>
    obtain ⟨s, t⟩ := p
    obtain ⟨_, rfl⟩ := rootA_text hr
    have h1 := unsealA_none h
    rw [unsealA_back _ (by rw [rootB_size]; omega)] at h1
    simp at h1

theorem rootA_none_of_size {x : ByteArray} (h : x.size ≠ 11) : rootA x = none := by
  unfold rootA
  rw [if_neg (fun e => h e.1)]

theorem byteI_extract (x : ByteArray) (a b i : Nat) (hb : b ≤ x.size) (hi : a + i < b) : byteI (x.extract a b) i = byteI x (a + i) := by
  have h1 : i < (x.extract a b).size := by rw [ByteArray.size_extract]; omega
  have h2 : a + i < x.size := by omega
  unfold byteI
  rw [dif_pos h1, dif_pos h2]
  congr 1
  exact ByteArray.getElem_extract h1

theorem ser_numN {x : ByteArray} (h : x.size = 11) : numN ((x.extract 0 7).extract 1 5) 4 = serN x 4 := by
  have hs : (x.extract 0 7).size = 7 := by rw [ByteArray.size_extract]; omega
  have e : ∀ i, i < 4 → byteI ((x.extract 0 7).extract 1 5) i = byteI x (i + 1) := fun i hi => by
    rw [byteI_extract _ 1 5 i (by omega) (by omega), byteI_extract _ 0 7 (1 + i) (by omega) (by omega)]
    congr 1
    omega
  simp only [numN, serN, e 0 (by omega), e 1 (by omega), e 2 (by omega), e 3 (by omega)]

theorem tre_numN {x : ByteArray} (h : x.size = 11) : numN ((x.extract 0 7).extract 5 7) 2 = treN x := by
  have hs : (x.extract 0 7).size = 7 := by rw [ByteArray.size_extract]; omega
  have e : ∀ i, i < 2 → byteI ((x.extract 0 7).extract 5 7) i = byteI x (5 + i) := fun i hi => by
    rw [byteI_extract _ 5 7 i (by omega) (by omega), byteI_extract _ 0 7 (5 + i) (by omega) (by omega)]
    congr 1
    omega
  simp only [numN, treN, e 0 (by omega), e 1 (by omega)]
  show 256 * (256 * 0 + byteI x 5) + byteI x 6 = 256 * byteI x 5 + byteI x 6
  omega

set_option maxRecDepth 100000 in
set_option maxHeartbeats 1000000 in
theorem implReadRoot_none (x : ByteArray) (hx : x.size ≤ 140737488355328) (hu : unS x = none) (w : World) :
    Calls Tryz.prog 157 #[.string x] w fun e w' => e = .returned (rootV x) ∧ Below w.heap.size w w' := by
  rw [rootV_none (rootA_none_of_unS hu)]
  have HU := hide (fun w => implUnsealed_any x hx w)
  rw [unsealA_none hu] at HU
  clear hu hx
  go_enter Tryz.func157, Tryz.ntmps157
  go_wp2_with fail
  obtain ⟨W, hW⟩ : ∃ W, W = w.alloc (Obj.cells #[Value.int .i64 0, Value.int .i64 0] 39) := ⟨_, rfl⟩
  have hr : RBox W w.heap.size 0 0 := by rw [hW]; exact heap_alloc_new w _
  have hb : Below w.heap.size w W := by rw [hW]; exact below_new1 _ _
  have hs : w.heap.size < W.heap.size := by rw [hW]; simp
  rw [← hW]
  clear hW
  refine (unhide HU _).mono ?_
  rintro e w2 ⟨rfl, hb2⟩
  have s0 : RBox w2 w.heap.size 0 0 := (hb2.block _ hs).trans hr
  have hb3 := hb.trans (hb2.mono hb.size)
  obtain ⟨t0, t1, tf⟩ := cells_of_two s0
  have tf0 := tf 0
  have tf1 := tf 1
  have HS0 := hide s0
  clear s0 tf hb2 hb hr
  go_wp2
  (try simp only [Exit.inBlock, Exit.then])
  refine bodyPost_ret (results_root Tryz.results157 _ _ w.heap.size _ _ rfl ((unhide HS0).two _ _)) rfl ?_
  exact ⟨rfl, (hb3.setCell (p := ⟨w.heap.size, 0, none⟩) (by simp) _).setCell (p := ⟨w.heap.size, 1, none⟩) (by simp) _⟩

set_option maxRecDepth 100000 in
set_option maxHeartbeats 1000000 in
theorem implReadRoot_other (x u : ByteArray) (hx : x.size ≤ 140737488355328) (hu : unS x = some u) (h7 : u.size ≠ 7) (w : World) :
    Calls Tryz.prog 157 #[.string x] w fun e w' => e = .returned (rootV x) ∧ Below w.heap.size w w' := by
  obtain ⟨hua, hue, h4⟩ := unsealA_some hu
  have hn : x.size ≠ 11 := fun h => h7 (by rw [hue, ByteArray.size_extract]; omega)
  rw [rootV_none (rootA_none_of_size hn)]
  have HU := hide (fun w => implUnsealed_any x hx w)
  rw [hua] at HU
  have h77 : ((u.size : Int) == 7) = false := by simp; omega
  have h78 : ¬ ((u.size : Int) = 7) := by omega
  clear hu hx hua hue h4 hn h7
  go_enter Tryz.func157, Tryz.ntmps157
  go_wp2_with fail
  obtain ⟨W, hW⟩ : ∃ W, W = w.alloc (Obj.cells #[Value.int .i64 0, Value.int .i64 0] 39) := ⟨_, rfl⟩
  have hr : RBox W w.heap.size 0 0 := by rw [hW]; exact heap_alloc_new w _
  have hb : Below w.heap.size w W := by rw [hW]; exact below_new1 _ _
  have hs : w.heap.size < W.heap.size := by rw [hW]; simp
  rw [← hW]
  clear hW
  refine (unhide HU _).mono ?_
  rintro e w2 ⟨rfl, hb2⟩
  have s0 : RBox w2 w.heap.size 0 0 := (hb2.block _ hs).trans hr
  have hb3 := hb.trans (hb2.mono hb.size)
  obtain ⟨t0, t1, tf⟩ := cells_of_two s0
  have tf0 := tf 0
  have tf1 := tf 1
  have HS0 := hide s0
  clear s0 tf hb2 hb hr
  go_wp2
  (try simp only [Exit.inBlock, Exit.then])
  refine bodyPost_ret (results_root Tryz.results157 _ _ w.heap.size _ _ rfl ((unhide HS0).two _ _)) rfl ?_
  exact ⟨rfl, (hb3.setCell (p := ⟨w.heap.size, 0, none⟩) (by simp) _).setCell (p := ⟨w.heap.size, 1, none⟩) (by simp) _⟩

end Rt
end Go.Proofs.YtjhnippfepbjmaaGreatDoor

/-
  The contract of impl.ReadRoot, where the sealed text has seven bytes.
-/
namespace Go.Proofs.YtjhnippfepbjmaaGreatDoor
namespace Rt
open Go.RowKit

set_option maxRecDepth 100000 in
set_option maxHeartbeats 1000000 in
theorem implReadRoot_seven (x u : ByteArray) (hx : x.size ≤ 140737488355328) (hu : unS x = some u) (h7 : u.size = 7) (w : World) :
    Calls Tryz.prog 157 #[.string x] w fun e w' => e = .returned (rootV x) ∧ Below w.heap.size w w' := by
  obtain ⟨hua, hue, h4⟩ := unsealA_some hu
  have h11 : x.size = 11 := by rw [hue, ByteArray.size_extract] at h7; omega
  have HX := hide h11
  have HU := hide (fun w => implUnsealed_any x hx w)
  rw [hua] at HU
  have hue7 : u = x.extract 0 7 := by rw [hue, h11]
  have hz1 : (u.extract 1 5).size = 4 := by rw [ByteArray.size_extract]; omega
  have hz2 : (u.extract 5 7).size = 2 := by rw [ByteArray.size_extract]; omega
  obtain ⟨g, hg⟩ : ∃ g : ByteArray → Int, g = fun v => ((numN v v.size : Nat) : Int) := ⟨_, rfl⟩
  have HN : Hid (∀ v, (v = u.extract 1 5 ∨ v = u.extract 5 7) → ∀ w, Calls Tryz.prog 172 #[.string v] w fun e w' => e = .returned (.int .i64 (g v)) ∧ w' = w) := fun v hv w => by
    rw [hg]
    exact numIn_any v (by rcases hv with rfl | rfl <;> omega) w
  have hg1 : g (u.extract 1 5) = ((serN x 4 : Nat) : Int) := by rw [hg]; show ((numN (u.extract 1 5) (u.extract 1 5).size : Nat) : Int) = _; rw [hz1, hue7, ser_numN h11]
  have hg2 : g (u.extract 5 7) = ((treN x : Nat) : Int) := by rw [hg]; show ((numN (u.extract 5 7) (u.extract 5 7).size : Nat) : Int) = _; rw [hz2, hue7, tre_numN h11]
  have hs1 : ∀ w, (Instr.slice 9 (.string u) (some (.int .i64 1)) (some (.int .i64 5)) none).run Tryz.prog w = .ok (.string (u.extract 1 5)) w := fun w => by
    have h := run_slice_string (P := Tryz.prog) w 9 u .i64 .i64 1 5 Tryz.underlying9 (by omega) (by omega) (by omega)
    exact h
  have hs2 : ∀ w, (Instr.slice 9 (.string u) (some (.int .i64 5)) none none).run Tryz.prog w = .ok (.string (u.extract 5 7)) w := fun w => by
    have h := run_slice_string_from_if (P := Tryz.prog) w 9 u .i64 5 Tryz.underlying9
    rw [if_pos (by omega)] at h
    rw [h7] at h
    exact h
  have HRA : Hid (rootA x = if x.size = 11 ∧ okR ((serN x 4 : Nat) : Int) (((treN x : Nat) : Int) - 1) = true ∧ (sealB (rootB ((serN x 4 : Nat) : Int) (((treN x : Nat) : Int) - 1))).toList = x.toList then some (((serN x 4 : Nat) : Int), ((treN x : Nat) : Int) - 1) else none) := rfl
  have htl : treN x ≤ 65535 := by have h5 := byteI_lt x 5; have h6 := byteI_lt x 6; unfold treN; omega
  have h77 : (u.size : Int) = 7 := by omega
  have hw3 : IntKind.i64.wrap (g (u.extract 5 7) - 1) = g (u.extract 5 7) - 1 := by rw [hg2]; exact IntWalk.i64_in _ ⟨by omega, by omega⟩
  rw [← hg1, ← hg2] at HRA
  generalize u.extract 1 5 = u1 at HN hs1 hg1 HRA
  generalize u.extract 5 7 = u2 at HN hs2 hg2 HRA hw3
  clear hg1 hg2 hg htl
  clear hu hx hua hue h4 h7 hue7 hz1 hz2 h11
  go_enter Tryz.func157, Tryz.ntmps157
  go_wp2_with fail
  obtain ⟨W, hW⟩ : ∃ W, W = w.alloc (Obj.cells #[Value.int .i64 0, Value.int .i64 0] 39) := ⟨_, rfl⟩
  have hr : RBox W w.heap.size 0 0 := by rw [hW]; exact heap_alloc_new w _
  have hb : Below w.heap.size w W := by rw [hW]; exact below_new1 _ _
  have hs : w.heap.size < W.heap.size := by rw [hW]; simp
  rw [← hW]
  clear hW
  refine (unhide HU _).mono ?_
  rintro e w2 ⟨rfl, hb2⟩
  have HS0 : Hid (RBox w2 w.heap.size 0 0) := (hb2.block _ hs).trans hr
  have hb3 := hb.trans (hb2.mono hb.size)
  have hs3 : w.heap.size < w2.heap.size := Nat.lt_of_lt_of_le hs hb2.size
  clear hb2 hb hr hs
  go_wp2_with fail
  go_region_held3 (fun _ => True) (first | go_keep | trivial)
    (first | (go_at_call 172; refine (unhide HN _ (by first | exact .inl rfl | exact .inr rfl) _).mono ?_; rintro e wk ⟨rfl, hwk⟩; subst wk))
  all_goals
    generalize g u1 = sn at HRA ⊢
    generalize g u2 - 1 = tn at HRA ⊢
    obtain ⟨w9, hw9⟩ : ∃ w9 : World, w9 = w2 := ⟨_, rfl⟩
    have hs9 : w.heap.size < w9.heap.size := by rw [hw9]; exact hs3
    obtain ⟨V, hV⟩ : ∃ V, V = (w2.alloc (Obj.cells #[Value.int .i64 sn, Value.int .i64 tn] 39)).drew := ⟨_, rfl⟩
    have r1 : RBox V w9.heap.size sn tn := by rw [hV, hw9]; exact heap_alloc_new w2 _
    have r0 : RBox V w.heap.size 0 0 := by rw [hV]; exact ((below_new1 w2 _).block _ hs3).trans (unhide HS0)
    have hbV : Below w.heap.size w V := by rw [hV]; exact (hb3.alloc hb3.size _).drew
    rw [← hV, ← hw9]
    have HR1 := hide r1
    have HR0 := hide r0
    obtain ⟨q0, q1, _⟩ := cells_of_two r1
    have hlV : w9.heap.size < V.heap.size := World.block_lt_of_cell? _ _ q0
    clear hV hw9 r1 r0 HS0 hb3 hs3 hw3 hs1 hs2 HN HU
    have HRT := hide (fun w => implRoot_any sn tn w)
    cases hok : okR sn tn
    · have hrt : rootT sn tn = .tuple #[.string ⟨#[]⟩, .bool false] := by unfold rootT; rw [hok]; rfl
      rw [hrt] at HRT
      have HV : Hid (rootV x = .tuple #[.agg #[.int .i64 0, .int .i64 0], .bool false]) := rootV_none (by rw [unhide HRA, if_neg (fun h => by rw [hok] at h; cases h.2.1)])
      clear hrt hok HRA
      go_wp2_with fail
      refine (unhide HRT _).mono ?_
      rintro e w2 ⟨rfl, hb2⟩
      have s0 : RBox w2 w.heap.size 0 0 := (hb2.block _ (by omega)).trans (unhide HR0)
      have hb3 := hbV.trans (hb2.mono hbV.size)
      obtain ⟨t0, t1, tf⟩ := cells_of_two s0
      have tf0 := tf 0
      have tf1 := tf 1
      have HS0 := hide s0
      clear s0 tf q0 q1 hb2
      go_wp2
      (try simp only [Exit.inBlock, Exit.then])
      refine bodyPost_ret (results_root Tryz.results157 _ _ w.heap.size _ _ rfl ((unhide HS0).two _ _)) rfl ?_
      exact ⟨by rw [unhide HV]; rfl, (hb3.setCell (p := ⟨w.heap.size, 0, none⟩) (by simp) _).setCell (p := ⟨w.heap.size, 1, none⟩) (by simp) _⟩
    · have hrt : rootT sn tn = .tuple #[.string (sealB (rootB sn tn)), .bool true] := by unfold rootT; rw [hok]; rfl
      rw [hrt] at HRT
      cases hq : ((sealB (rootB sn tn)).toList == x.toList)
      · have HV : Hid (rootV x = .tuple #[.agg #[.int .i64 0, .int .i64 0], .bool false]) := rootV_none (by rw [unhide HRA, if_neg (fun h => by rw [beq_eq_false_iff_ne] at hq; exact hq h.2.2)])
        generalize sealB (rootB sn tn) = z at HRT hq
        clear hrt hok HRA
        go_wp2_with fail
        refine (unhide HRT _).mono ?_
        rintro e w2 ⟨rfl, hb2⟩
        have s0 : RBox w2 w.heap.size 0 0 := (hb2.block _ (by omega)).trans (unhide HR0)
        have hb3 := hbV.trans (hb2.mono hbV.size)
        obtain ⟨t0, t1, tf⟩ := cells_of_two s0
        have tf0 := tf 0
        have tf1 := tf 1
        have HS0 := hide s0
        clear s0 tf q0 q1 hb2
        go_wp2
        (try simp only [Exit.inBlock, Exit.then])
        refine bodyPost_ret (results_root Tryz.results157 _ _ w.heap.size _ _ rfl ((unhide HS0).two _ _)) rfl ?_
        exact ⟨by rw [unhide HV]; rfl, (hb3.setCell (p := ⟨w.heap.size, 0, none⟩) (by simp) _).setCell (p := ⟨w.heap.size, 1, none⟩) (by simp) _⟩
      · have HV : Hid (rootV x = .tuple #[.agg #[.int .i64 sn, .int .i64 tn], .bool true]) := rootV_some (by rw [unhide HRA, if_pos ⟨unhide HX, hok, by simpa using hq⟩])
        generalize sealB (rootB sn tn) = z at HRT hq
        clear hrt hok HRA
        go_wp2_with fail
        refine (unhide HRT _).mono ?_
        rintro e w2 ⟨rfl, hb2⟩
        have s0 : RBox w2 w.heap.size 0 0 := (hb2.block _ (by omega)).trans (unhide HR0)
        have s1 : RBox w2 w9.heap.size sn tn := (hb2.block _ hlV).trans (unhide HR1)
        obtain ⟨v0, v1, _⟩ := cells_of_two s1
        have hb3 := hbV.trans (hb2.mono hbV.size)
        obtain ⟨t0, t1, tf⟩ := cells_of_two s0
        have tf0 := tf 0
        have tf1 := tf 1
        have HS0 := hide s0
        clear s0 tf q0 q1 hb2
        go_wp2
        (try simp only [Exit.inBlock, Exit.then])
        refine bodyPost_ret (results_root Tryz.results157 _ _ w.heap.size _ _ rfl ((unhide HS0).two _ _)) rfl ?_
        exact ⟨by rw [unhide HV]; rfl, (hb3.setCell (p := ⟨w.heap.size, 0, none⟩) (by simp) _).setCell (p := ⟨w.heap.size, 1, none⟩) (by simp) _⟩

theorem implReadRoot_any (x : ByteArray) (hx : x.size ≤ 140737488355328) (w : World) :
    Calls Tryz.prog 157 #[.string x] w fun e w' => e = .returned (rootV x) ∧ Below w.heap.size w w' := by
  cases hu : unS x with
  | none => exact implReadRoot_none x hx hu w
  | some u =>
    by_cases h7 : u.size = 7
    · exact implReadRoot_seven x u hx hu h7 w
    · exact implReadRoot_other x u hx hu h7 w
end Rt
end Go.Proofs.YtjhnippfepbjmaaGreatDoor
