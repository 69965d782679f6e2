/-
 GrRC1.
-/
import Derived.Test.YtihnaddfpmjpaaaGreatDoorJ2
import Derived.Test.YtihnaddfpmjpaaaGreatDoorJ17
import Derived.Test.YtihnaddfpmjpaaaGreatDoorJ30
namespace Go.Proofs.YtihnaddfpmjpaaaGreatDoor
namespace Gr
open Go.RowKit
def CuAt (w : World) (g : Nat) (t : ByteArray) (c : CS) : Prop := Blk w g #[.string t, .int .i64 (c.p : Int), .bool c.b] 159 ∧ c.p ≤ t.size
theorem CuAt.lt {w : World} {g : Nat} {t : ByteArray} {c : CS} (h : CuAt w g t c) : g < w.heap.size := h.1.lt
theorem CuAt.kept {S : Nat → Prop} {w w' : World} {g : Nat} {t : ByteArray} {c : CS} (h : CuAt w g t c) (hk : Kept S w w') (hS : ¬ S g) : CuAt w' g t c := ⟨h.1.kept hk hS, h.2⟩
theorem CuAt.below {w w' : World} {g : Nat} {t : ByteArray} {c : CS} (h : CuAt w g t c) (hb : Below w.heap.size w w') : CuAt w' g t c := ⟨h.1.below hb, h.2⟩
theorem CuAt.bad {w : World} {g : Nat} {t : ByteArray} {c : CS} (h : CuAt w g t c) : w.cell? ⟨g, 2, none⟩ = some (.bool c.b) := h.1.cell 2 _ rfl
set_option maxRecDepth 100000 in
set_option maxHeartbeats 1000000 in
theorem l12Var_any (t : ByteArray) (ht : t.size ≤ 1048576) (g : Nat) (c : CS) (w : World) (hc : CuAt w g t c) :
    Calls Tryz.prog 118 #[.pointer (some ⟨g, 0, none⟩)] w fun e w' => e = .returned (.int .i64 (rd t c).1) ∧ CuAt w' g t (rd t c).2 ∧ Kept (fun k => k = g) w w' := by
  obtain ⟨hm, hp⟩ := hc
  obtain ⟨p, b⟩ := c
  simp only at hm hp
  have hg := hm.lt
  have RV := hide (fun w1 => specRead_any t (p : Int) (by omega) w1)
  have HM := hide hm
  have q0 : ∀ d : Grown w.heap.size w, d.w.cell? ⟨g, 0, none⟩ = some (.string t) := fun d => d.cell hg (hm.cell 0 _ rfl)
  have q1 : ∀ d : Grown w.heap.size w, d.w.cell? ⟨g, 1, none⟩ = some (.int .i64 (p : Int)) := fun d => d.cell hg (hm.cell 1 _ rfl)
  have HR : Hid (rd t ⟨p, b⟩ = if b = true then (0, ⟨p, true⟩) else match readA t (p : Int) with | none => (0, ⟨p, true⟩) | some x => ((x.1 : Int), ⟨x.2, false⟩)) := rfl
  have HBd : Hid (∀ x e, readA t (p : Int) = some (x, e) → x ≤ 1000000000 ∧ e ≤ t.size) := fun x e h => readA_bound h
  generalize readA t (p : Int) = r at RV HR HBd
  generalize rd t ⟨p, b⟩ = R at HR
  clear hm
  cases r with
  | none =>
    have hR : R = (0, ⟨p, true⟩) := by rw [unhide HR]; split <;> rfl
    subst hR
    have RV2 : Hid (∀ w1, Calls Tryz.prog 58 #[.string t, .int .i64 (p : Int)] w1 fun e w' => e = .returned (.tuple #[.int .i64 0, .int .i64 0, .bool false]) ∧ Below w1.heap.size w1 w') := RV
    clear HR HBd
    go_enter Tryz.func118, Tryz.ntmps118
    go_wp2_with fail
    refine wp_region_grown w.heap.size (by kernel_rfl) (by kernel_rfl) ?_
    repeat (go_big_quiet_step ((go_at_call 58; exact Calls.grown (Nat.le_refl _) (unhide RV2 _))))
    refine wpQuiet_nil ?_
    rintro w5 ⟨d5, rfl⟩
    obtain ⟨W5, hb5⟩ := d5
    dsimp only
    clear q0 q1
    have m5 := (unhide HM).below hb5
    have k5 : Kept (fun k => k = g) w W5 := Kept.of_below hb5
    have f5 := m5.froz 2
    have p5 := m5.cell 2 _ rfl
    have HS : Hid (Blk (W5.setCell ⟨g, 2, none⟩ (.bool true)) g #[.string t, .int .i64 (p : Int), .bool true] 159) := m5.set 2 _
    have HK : Hid (Kept (fun k => k = g) w (W5.setCell ⟨g, 2, none⟩ (.bool true))) := k5.trans (Kept.set _ _ _ _ rfl)
    clear m5 k5 hb5
    cases b
    · go_wp2
      go_ret
      exact ⟨rfl, ⟨unhide HS, hp⟩, unhide HK⟩
    · go_wp2
      go_ret
      exact ⟨rfl, ⟨unhide HS, hp⟩, unhide HK⟩
  | some x =>
    obtain ⟨x, e⟩ := x
    obtain ⟨hx, he⟩ := unhide HBd x e rfl
    have RV2 : Hid (∀ w1, Calls Tryz.prog 58 #[.string t, .int .i64 (p : Int)] w1 fun u w' => u = .returned (.tuple #[.int .i64 (x : Int), .int .i64 (e : Int), .bool true]) ∧ Below w1.heap.size w1 w') := RV
    clear HBd
    go_enter Tryz.func118, Tryz.ntmps118
    go_wp2_with fail
    refine wp_region_grown w.heap.size (by kernel_rfl) (by kernel_rfl) ?_
    repeat (go_big_quiet_step ((go_at_call 58; exact Calls.grown (Nat.le_refl _) (unhide RV2 _))))
    refine wpQuiet_nil ?_
    rintro w5 ⟨d5, rfl⟩
    obtain ⟨W5, hb5⟩ := d5
    dsimp only
    clear q0 q1
    have m5 := (unhide HM).below hb5
    have k5 : Kept (fun k => k = g) w W5 := Kept.of_below hb5
    have f5 := m5.froz 2
    have f6 := m5.froz 1
    have p5 := m5.cell 2 _ rfl
    have p6 := m5.cell 1 _ rfl
    have HS : Hid (Blk (W5.setCell ⟨g, 2, none⟩ (.bool true)) g #[.string t, .int .i64 (p : Int), .bool true] 159) := m5.set 2 _
    have HK : Hid (Kept (fun k => k = g) w (W5.setCell ⟨g, 2, none⟩ (.bool true))) := k5.trans (Kept.set _ _ _ _ rfl)
    have HS1 : Hid (Blk (W5.setCell ⟨g, 1, none⟩ (.int .i64 (e : Int))) g #[.string t, .int .i64 (e : Int), .bool b] 159) := m5.set 1 _
    have HK1 : Hid (Kept (fun k => k = g) w (W5.setCell ⟨g, 1, none⟩ (.int .i64 (e : Int)))) := k5.trans (Kept.set _ _ _ _ rfl)
    clear m5 k5 hb5
    cases b
    · have hR : R = ((x : Int), ⟨e, false⟩) := unhide HR
      subst hR
      clear HR HS HK
      go_wp2
      go_ret
      exact ⟨rfl, ⟨unhide HS1, he⟩, unhide HK1⟩
    · have hR : R = (0, ⟨p, true⟩) := unhide HR
      subst hR
      clear HR HS1 HK1
      go_wp2
      go_ret
      exact ⟨rfl, ⟨unhide HS, hp⟩, unhide HK⟩
end Gr
end Go.Proofs.YtihnaddfpmjpaaaGreatDoor
