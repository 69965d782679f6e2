/-
  The contract of (impl.disk).tear.
-/
import Derived.Test.YtfbfafpfhgjdfaaCrashImpl
namespace Go.Proofs.Ytfbfafpfhgjdfaa
open Go.RowKit Go.Maps

set_option maxRecDepth 100000 in
set_option maxHeartbeats 2000000 in
theorem tear_any (m k : Nat) (L : List ByteArray) (t : ByteArray) (P : Nat) (hk : k < L.length) (hl : L.length ≤ 1048576) (hP : P ≤ 64) (ht : t.size ≤ 64) (hs : L[k].size ≤ 64) (w : World) (hd : Disk w m L) :
    Calls Try.prog 60 #[.map (some m), .agg #[.int .i64 (k : Int), .string t], .int .i64 (P : Int)] w fun e w' => e = .returned (.tuple #[]) ∧ Disk w' m (L.set k (tearT t L[k] P)) ∧ Kept (fun g => g = m + 1 + k) w w' := by
  have hbn := below_new w (Obj.cells #[.int .i64 (k : Int), .string t] 66)
  have hd1 := hd.below hbn
  have hlk := hd1.look k hk hl
  have hsz := hd.size
  obtain ⟨W1, hW1⟩ : ∃ W, W = w.alloc (Obj.cells #[.int .i64 (k : Int), .string t] 66) := ⟨_, rfl⟩
  obtain ⟨u0, u1, _⟩ := cells_of_two (show W1.heap[w.heap.size]? = some (.cells #[.int .i64 (k : Int), .string t] 66 (0, 0)) by rw [hW1]; exact heap_alloc_new w _)
  rw [← hW1] at hbn hd1 hlk
  obtain ⟨hc, hf⟩ := cells_of_one (hd1.2 k hk)
  have HD := hide (fun u => hd1.set k hk u)
  have HK : Hid (∀ u, Kept (fun g => g = m + 1 + k) w (W1.setCell ⟨m + 1 + k, 0, none⟩ (.string u))) := fun u => (Kept.of_below hbn).trans (Kept.set _ (m + 1 + k) 0 _ rfl)
  have hne1 : w.heap.size ≠ m + 1 + k := by omega
  have hne2 : m + 1 + k ≠ w.heap.size := by omega
  generalize L[k] = z at hc hs ⊢
  clear hd hd1 hsz hbn
  obtain ⟨a1, h1, hE1⟩ : ∃ a1, a1 = t.extract 0 (min P t.size) ∧ ∀ w, (Instr.slice 9 (.string t) none (some (.int .i64 (min (P : Int) (t.size : Int)))) none).run Try.prog w = .ok (.string a1) w := ⟨_, rfl, fun u => by
    have h := run_slice_string_to_if (P := Try.prog) u 9 t .i64 (min (P : Int) (t.size : Int)) Try.underlying9
    have e : (min (P : Int) (t.size : Int)).toNat = min P t.size := by omega
    rw [if_pos ⟨by omega, by omega⟩, e] at h
    exact h⟩
  obtain ⟨a2, h2, hE2⟩ : ∃ a2, a2 = z.extract (min P z.size) z.size ∧ ∀ w, (Instr.slice 9 (.string z) (some (.int .i64 (min (P : Int) (z.size : Int)))) none none).run Try.prog w = .ok (.string a2) w := ⟨_, rfl, fun u => by
    have h := run_slice_string_from_if (P := Try.prog) u 9 z .i64 (min (P : Int) (z.size : Int)) Try.underlying9
    have e : (min (P : Int) (z.size : Int)).toNat = min P z.size := by omega
    rw [if_pos ⟨by omega, by omega⟩, e] at h
    exact h⟩
  have HU : Hid (tearT t z P = a1 ++ a2) := by show _ = _; rw [h1, h2]; rfl
  have z1 : a1.size ≤ 64 := by rw [h1]; simp; omega
  have z2 : a2.size ≤ 64 := by rw [h2]; simp; omega
  clear h1 h2
  rw [unhide HU]
  go_enter Try.func60, Try.ntmps60
  rw [hW1] at hlk
  have HW1 := hide hW1
  clear hW1
  go_wp2_with fail
  rw [← unhide HW1]
  clear HW1 hlk
  go_big_region
  go_returns
  exact ⟨rfl, (unhide HD _).kept ((Kept.refl (fun _ => False) _).drew) (by simp), (unhide HK _).drew⟩
end Go.Proofs.Ytfbfafpfhgjdfaa
