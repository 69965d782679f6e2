/-
  Texts of this claim, one behind the other: RtImpl.
-/
import Derived.Test.YtjhnippfepbjmaaGreatDoorJ28
import Derived.Test.YtjhnippfepbjmaaGreatDoorJ26
import Derived.Test.YtjhnippfepbjmaaGreatDoorJ6

/-
  The contracts of impl.isTree and impl.RootText.
-/
namespace Go.Proofs.YtjhnippfepbjmaaGreatDoor
namespace Rt
open Go.RowKit

theorem isTree_any (t : Int) (w : World) :
    Calls Tryz.prog 73 #[.int .i64 t] w fun e w' => e = .returned (.bool (decide (-1 ≤ t) && decide (t ≤ 399))) ∧ w' = w := by
  have H := hide (fun w => isPlace_any t 400 w)
  by_cases h : t = -1
  · subst h
    go_enter Tryz.func73, Tryz.ntmps73
    go_wp2
    go_ret
    exact ⟨rfl, rfl⟩
  · have hq : (t == -1) = false := by simpa using h
    have hb : (decide (-1 ≤ t) && decide (t ≤ 399)) = (decide (0 ≤ t) && decide (t < 400)) := by
      rw [Bool.eq_iff_iff]
      simp
      omega
    rw [hb]
    clear hb
    generalize (decide (0 ≤ t) && decide (t < 400)) = q at H
    go_enter Tryz.func73, Tryz.ntmps73
    go_wp2_with fail
    refine (unhide H _).mono ?_
    rintro e w2 ⟨rfl, rfl⟩
    go_wp2
    go_ret
    exact ⟨by simp, rfl⟩

theorem rootT_no {s t : Int} (h : ¬ (0 ≤ s ∧ s ≤ 1000000000 ∧ -1 ≤ t ∧ t ≤ 399)) : rootT s t = .tuple #[.string ⟨#[]⟩, .bool false] := by
  unfold rootT
  rw [if_neg]
  unfold okR
  simp
  omega

theorem rootT_yes {s t : Int} (h : 0 ≤ s ∧ s ≤ 1000000000 ∧ -1 ≤ t ∧ t ≤ 399) : rootT s t = .tuple #[.string (sealB (rootB s t)), .bool true] := by
  unfold rootT
  rw [if_pos]
  unfold okR
  simp
  omega

set_option maxRecDepth 100000 in
set_option maxHeartbeats 800000 in
theorem implRoot_any (s t : Int) (w : World) :
    Calls Tryz.prog 61 #[.agg #[.int .i64 s, .int .i64 t]] w fun e w' => e = .returned (rootT s t) ∧ Below w.heap.size w w' := by
  have HI := hide (fun w => isTree_any t w)
  by_cases h1 : s < 0
  · rw [rootT_no (by omega)]
    go_enter Tryz.func61, Tryz.ntmps61
    go_wp2
    go_ret2
    exact ⟨rfl, below_new1 _ _⟩
  by_cases h2 : 1000000000 < s
  · rw [rootT_no (by omega)]
    go_enter Tryz.func61, Tryz.ntmps61
    go_wp2
    go_ret2
    exact ⟨rfl, below_new1 _ _⟩
  cases h3 : (decide (-1 ≤ t) && decide (t ≤ 399))
  · rw [rootT_no (by intro h; simp at h3; omega)]
    rw [h3] at HI
    clear h3
    go_enter Tryz.func61, Tryz.ntmps61
    go_wp2_with fail
    refine (unhide HI _).mono ?_
    rintro e w2 ⟨rfl, rfl⟩
    go_wp2
    go_ret2
    exact ⟨rfl, below_new1 _ _⟩
  · have ht : -1 ≤ t ∧ t ≤ 399 := by simpa using h3
    rw [rootT_yes (by omega)]
    rw [h3] at HI
    obtain ⟨g, hg⟩ : ∃ g : Int → Int → ByteArray, g = fun f x => bigB f.toNat x.toNat := ⟨_, rfl⟩
    have HBG : Hid (∀ x f : Int, ((x = s ∧ f = 4) ∨ (x = t + 1 ∧ f = 2)) → ∀ w, Calls Tryz.prog 75 #[.int .i64 x, .int .i64 f] w fun e w' => e = .returned (.string (g f x)) ∧ Below w.heap.size w w') := fun x f h w => by
      have hx : 0 ≤ x ∧ x ≤ 1000000000 ∧ 0 ≤ f ∧ f ≤ 8 := by rcases h with ⟨rfl, rfl⟩ | ⟨rfl, rfl⟩ <;> omega
      have h0 := numText_any x.toNat f.toNat (by omega) (by omega) w
      rw [show ((x.toNat : Nat) : Int) = x by omega, show ((f.toNat : Nat) : Int) = f by omega] at h0
      rw [hg]
      exact h0
    have hz1 : (g 4 s).size = 4 := by rw [hg]; exact bigB_size 4 _
    have hz2 : (g 2 (t + 1)).size = 2 := by rw [hg]; exact bigB_size 2 _
    have hrb : rootB s t = (⟨#[82]⟩ ++ g 4 s) ++ g 2 (t + 1) := by rw [hg]; rfl
    have hz3 := rootB_size s t
    have HSE := hide (fun w => implSealed_any (rootB s t) w)
    have hso : sealA (rootB s t) = .tuple #[.string (sealB (rootB s t)), .bool true] := by unfold sealA; rw [if_pos (by omega)]
    rw [hso, hrb] at HSE
    rw [hrb]
    clear h3 hrb hz3 hg hso
    have ht1 : -1 ≤ t := ht.1
    have ht2 : t ≤ 399 := ht.2
    have hwr : IntKind.i64.wrap (t + 1) = t + 1 := IntWalk.i64_in _ ⟨by omega, by omega⟩
    have hzz : ¬ 9223372036854775807 < (⟨#[82]⟩ : ByteArray).size + (g 4 s).size := by rw [hz1]; show ¬ 9223372036854775807 < 1 + 4; omega
    have hzz2 : ¬ 9223372036854775807 < ((⟨#[82]⟩ : ByteArray) ++ g 4 s).size + (g 2 (t + 1)).size := by rw [ByteArray.size_append, hz1, hz2]; show ¬ 9223372036854775807 < 1 + 4 + 2; omega
    go_enter Tryz.func61, Tryz.ntmps61
    go_wp2_with fail
    refine (unhide HI _).mono ?_
    rintro e w3 ⟨rfl, hw3⟩
    subst w3
    obtain ⟨W1, hW1⟩ : ∃ W, W = w.alloc (Obj.cells #[Value.int .i64 s, Value.int .i64 t] 39) := ⟨_, rfl⟩
    have hblk : W1.heap[w.heap.size]? = some (.cells #[Value.int .i64 s, Value.int .i64 t] 39 (0, 0)) := by rw [hW1]; exact heap_alloc_new w _
    have p0 : W1.cell? ⟨w.heap.size, 0, none⟩ = some (.int .i64 s) := by rw [cell_of_row _ _ _ _ _ _ hblk]; rfl
    have p1 : W1.cell? ⟨w.heap.size, 1, none⟩ = some (.int .i64 t) := by rw [cell_of_row _ _ _ _ _ _ hblk]; rfl
    have hlt : w.heap.size < W1.heap.size := by rw [hW1]; simp
    have hbe : Below w.heap.size w W1.drew := by rw [hW1]; exact (below_new1 _ _).drew
    rw [← hW1]
    clear hW1 hblk
    go_wp2_with fail
    go_region_held3 (fun u => u.cell? ⟨w.heap.size, 0, none⟩ = some (.int .i64 s) ∧ u.cell? ⟨w.heap.size, 1, none⟩ = some (.int .i64 t))
      (first | go_keep | exact ⟨p0, p1⟩)
      (first
        | (go_at_call 75; refine (unhide HBG _ _ (by first | exact .inl ⟨rfl, rfl⟩ | exact .inr ⟨rfl, rfl⟩) _).mono ?_; rintro e wk ⟨rfl, hbk⟩; have p0 := (hbk.cell (p := ⟨w.heap.size, 0, none⟩) hlt).trans p0; have p1 := (hbk.cell (p := ⟨w.heap.size, 1, none⟩) hlt).trans p1; have hlt := Nat.lt_of_lt_of_le hlt hbk.size; have hbe := hbe.trans (hbk.mono hbe.size))
        | (go_at_call 74; refine (unhide HSE _).mono ?_; rintro e wk ⟨rfl, hbk⟩; have p0 := (hbk.cell (p := ⟨w.heap.size, 0, none⟩) hlt).trans p0; have p1 := (hbk.cell (p := ⟨w.heap.size, 1, none⟩) hlt).trans p1; have hlt := Nat.lt_of_lt_of_le hlt hbk.size; have hbe := hbe.trans (hbk.mono hbe.size)))
    all_goals
      go_wp2
      go_ret2
      exact ⟨rfl, hbe⟩
end Rt
end Go.Proofs.YtjhnippfepbjmaaGreatDoor
