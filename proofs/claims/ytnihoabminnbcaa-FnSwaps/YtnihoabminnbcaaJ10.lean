/-
 LkF.
-/
import Derived.Test.YtnihoabminnbcaaJ2
import Derived.Test.YtnihoabminnbcaaJ9
import Derived.Test.YtnihoabminnbcaaJ8
import Derived.ChangeKeysEq
namespace Go.Proofs.Ytnihoabminnbcaa
namespace Lk
open Go.RowKit
open Gr (Blk Kept setMany setMany_at setMany_size setMany_all)
/-- Nine flags. -/
def fl (f : Nat → Bool) : Array Value := ((List.range 9).map fun (j : Nat) => Value.bool (f j)).toArray
theorem fl_at (f : Nat → Bool) (k : Nat) (h : k < 9) : (fl f)[k]? = some (.bool (f k)) := by
  unfold fl
  simp [h]
theorem fl_size (f : Nat → Bool) : (fl f).size = 9 := by unfold fl; simp
theorem fl_one (f : Nat → Bool) : (fl f).all (·.oneCell') = true := by
  apply Array.all_eq_true_iff_forall_mem.2
  intro v hv
  unfold fl at hv
  simp only [List.mem_toArray, List.mem_map] at hv
  obtain ⟨j, _, rfl⟩ := hv
  rfl
theorem fl_ext {C : Array Value} {f : Nat → Bool} (h : C.size = 9) (hk : ∀ k : Nat, k < 9 → C[k]? = some (.bool (f k))) : C = fl f := by
  apply Array.ext_getElem?
  intro i
  rcases Nat.lt_or_ge i 9 with h' | h'
  · rw [hk i h', fl_at f i h']
  · rw [Array.getElem?_eq_none (by omega), Array.getElem?_eq_none (by rw [fl_size]; omega)]
theorem fl_congr {f g : Nat → Bool} (h : ∀ j, j < 9 → f j = g j) : fl f = fl g := fl_ext (fl_size f) (fun k hk => by rw [fl_at f k hk, h k hk])
theorem fl_set (f : Nat → Bool) (k : Nat) (b : Bool) : (fl f).setIfInBounds k (.bool b) = fl (fun j => if j = k then b else f j) := by
  refine fl_ext (by simp [fl_size]) (fun i hi => ?_)
  by_cases h : k = i
  · subst h
    rw [Array.getElem?_setIfInBounds_self]
    simp [fl_size, hi]
  · rw [Array.getElem?_setIfInBounds_ne h, fl_at f i hi]
    have : ¬ i = k := fun e => h e.symm
    simp [this]
theorem infoV : (Try.prog.info? 60).map (·.size) = some 9 := by kernel_rfl
theorem infoVF (f : Nat → Bool) : (Try.prog.info? 60).map (·.size) = some (fl f).size := by rw [infoV, fl_size]
theorem infoVL (f : Nat → Bool) : (Try.prog.info? 60).map (·.size) = some (fl f).toList.length := by rw [Array.length_toList, fl_size]; exact infoV
theorem zero_fl (W : World) : (zeroValue 60).run Try.prog W = .ok (.agg (fl fun _ => false)) W := by kernel_rfl
theorem load_fl {W : World} {g : Nat} {f : Nat → Bool} (h : Blk W g (fl f) 60) : (loadVar 60 ⟨g, 0, none⟩).run Try.prog W = .ok (.agg (fl f)) W := by
  have h1 := run_loadVar_mid (P := Try.prog) W g 0 60 (fl f).toList _ h.range Try.underlying60 rfl (infoVL f)
  rwa [Array.toArray_toList] at h1
theorem index_fl (f : Nat → Bool) (W : World) : ∀ k : Nat, k < 9 → (Instr.index 60 (.agg (fl f)) (.int .i64 (k : Int))).run Try.prog W = .ok (.bool (f k)) W
  | 0, _ => by kernel_rfl
  | 1, _ => by kernel_rfl
  | 2, _ => by kernel_rfl
  | 3, _ => by kernel_rfl
  | 4, _ => by kernel_rfl
  | 5, _ => by kernel_rfl
  | 6, _ => by kernel_rfl
  | 7, _ => by kernel_rfl
  | 8, _ => by kernel_rfl
  | n + 9, h => absurd h (by omega)
/-- Nine times nine flags. -/
def tb (F : Nat → Nat → Bool) : Array Value := ((List.range 81).map fun (i : Nat) => Value.bool (F (i / 9) (i % 9))).toArray
theorem tb_at (F : Nat → Nat → Bool) (k : Nat) (h : k < 81) : (tb F)[k]? = some (.bool (F (k / 9) (k % 9))) := by
  unfold tb
  simp [h]
theorem tb_in (F : Nat → Nat → Bool) (a b : Nat) (ha : a < 9) (hb : b < 9) : (tb F)[a * 9 + b]? = some (.bool (F a b)) := by
  rw [tb_at F _ (by omega), show (a * 9 + b) / 9 = a by omega, show (a * 9 + b) % 9 = b by omega]
theorem tb_size (F : Nat → Nat → Bool) : (tb F).size = 81 := by unfold tb; simp
theorem tb_one (F : Nat → Nat → Bool) : (tb F).all (·.oneCell') = true := by
  apply Array.all_eq_true_iff_forall_mem.2
  intro v hv
  unfold tb at hv
  simp only [List.mem_toArray, List.mem_map] at hv
  obtain ⟨j, _, rfl⟩ := hv
  rfl
theorem tb_ext {C : Array Value} {F : Nat → Nat → Bool} (h : C.size = 81) (hk : ∀ k : Nat, k < 81 → C[k]? = some (.bool (F (k / 9) (k % 9)))) : C = tb F := by
  apply Array.ext_getElem?
  intro i
  rcases Nat.lt_or_ge i 81 with h' | h'
  · rw [hk i h', tb_at F i h']
  · rw [Array.getElem?_eq_none (by omega), Array.getElem?_eq_none (by rw [tb_size]; omega)]
theorem tb_congr {F F' : Nat → Nat → Bool} (h : ∀ i j, i < 9 → j < 9 → F i j = F' i j) : tb F = tb F' := tb_ext (tb_size F) (fun k hk => by rw [tb_at F k hk, h _ _ (by omega) (by omega)])
/-- The table with the edge between two vertices turned. -/
def turnF (F : Nat → Nat → Bool) (a b : Nat) : Nat → Nat → Bool := fun i j => if (i = a ∧ j = b) ∨ (i = b ∧ j = a) then !F i j else F i j
theorem tb_turn (F : Nat → Nat → Bool) (a b : Nat) (ha : a < 9) (hb : b < 9) (_hne : a ≠ b) : ((tb F).setIfInBounds (a * 9 + b) (.bool (!F a b))).setIfInBounds (b * 9 + a) (.bool (!F b a)) = tb (turnF F a b) := by
  refine tb_ext (by simp [tb_size]) (fun k hk => ?_)
  unfold turnF
  by_cases h2 : b * 9 + a = k
  · subst h2
    rw [Array.getElem?_setIfInBounds_self, show (b * 9 + a) / 9 = b by omega, show (b * 9 + a) % 9 = a by omega]
    simp [tb_size]
    omega
  · rw [Array.getElem?_setIfInBounds_ne h2]
    by_cases h1 : a * 9 + b = k
    · subst h1
      rw [Array.getElem?_setIfInBounds_self, show (a * 9 + b) / 9 = a by omega, show (a * 9 + b) % 9 = b by omega]
      simp [tb_size]
      omega
    · rw [Array.getElem?_setIfInBounds_ne h1, tb_at F k hk, if_neg (by omega)]
theorem infoT : (Try.prog.info? 62).map (·.size) = some 81 := by kernel_rfl
theorem infoTF (F : Nat → Nat → Bool) : (Try.prog.info? 62).map (·.size) = some (tb F).size := by rw [infoT, tb_size]
theorem infoTL (F : Nat → Nat → Bool) : (Try.prog.info? 62).map (·.size) = some (tb F).toList.length := by rw [Array.length_toList, tb_size]; exact infoT
theorem zero_tb (W : World) : (zeroValue 62).run Try.prog W = .ok (.agg (tb fun _ _ => false)) W := by kernel_rfl
theorem load_tb {W : World} {g : Nat} {F : Nat → Nat → Bool} (h : Blk W g (tb F) 62) : (loadVar 62 ⟨g, 0, none⟩).run Try.prog W = .ok (.agg (tb F)) W := by
  have h1 := run_loadVar_mid (P := Try.prog) W g 0 62 (tb F).toList _ h.range Try.underlying62 rfl (infoTL F)
  rwa [Array.toArray_toList] at h1
theorem index_tb (F : Nat → Nat → Bool) (W : World) : ∀ k : Nat, k < 9 → (Instr.index 62 (.agg (tb F)) (.int .i64 (k : Int))).run Try.prog W = .ok (.agg (fl (F k))) W
  | 0, _ => by kernel_rfl
  | 1, _ => by kernel_rfl
  | 2, _ => by kernel_rfl
  | 3, _ => by kernel_rfl
  | 4, _ => by kernel_rfl
  | 5, _ => by kernel_rfl
  | 6, _ => by kernel_rfl
  | 7, _ => by kernel_rfl
  | 8, _ => by kernel_rfl
  | n + 9, h => absurd h (by omega)
theorem tb_part (F : Nat → Nat → Bool) (k : Nat) (h : k < 9) : ∀ j, j < (fl (F k)).size → (tb F)[k * 9 + j]? = (fl (F k))[j]? := fun j hj => by
  rw [fl_size] at hj
  rw [tb_in F k j h hj, fl_at _ j hj]
end Lk
end Go.Proofs.Ytnihoabminnbcaa
