/-
  The contracts of the program's reader of pages: want, oneByte, number, short.
-/
import Derived.Test.YtajajfmaekdphaaPgBox
import Derived.Test.YtajajfmaekdphaaWShort
namespace Go.Proofs.Ytajajfmaekdphaa
open Go.RowKit

/-- The panic of a reader that finds no page. -/
abbrev noPg : Ending := .panicked [{ v := .iface 94 (.agg #[]), recovered := false }]

theorem want_yes (a : Option Addr) (w : World) : Calls Try.prog 74 #[.pointer a, .bool true] w fun e w' => e = .returned (.tuple #[]) ∧ w' = w := by
  go_enter Try.func74, Try.ntmps74
  go_wp2
  go_end0
  exact ⟨rfl, rfl⟩

theorem want_no (a : Option Addr) (w : World) : Calls Try.prog 74 #[.pointer a, .bool false] w fun e w' => e = noPg ∧ w' = w := by
  go_enter Try.func74, Try.ntmps74
  go_wp2
  exact ⟨rfl, rfl, rfl⟩

/-- A reader in memory: its text and its place, in block g. -/
def RdAt (w : World) (g : Nat) (s : ByteArray) (a : Nat) : Prop := w.heap[g]? = some (.cells #[.string s, .int .i64 (a : Int)] 97 (0, 0))

theorem RdAt.lt {w : World} {g : Nat} {s : ByteArray} {a : Nat} (h : RdAt w g s a) : g < w.heap.size := by
  rcases Nat.lt_or_ge g w.heap.size with h1 | h1
  · exact h1
  · unfold RdAt at h; rw [Array.getElem?_eq_none h1] at h; cases h

theorem RdAt.cells {w : World} {g : Nat} {s : ByteArray} {a : Nat} (h : RdAt w g s a) : w.cell? ⟨g, 0, none⟩ = some (.string s) ∧ w.cell? ⟨g, 1, none⟩ = some (.int .i64 (a : Int)) ∧ ∀ j, w.frozen? ⟨g, j, none⟩ = false := cells_of_two h

theorem RdAt.below {w w' : World} {g B : Nat} {s : ByteArray} {a : Nat} (h : RdAt w g s a) (hb : Below B w w') (hg : g < B) : RdAt w' g s a := by
  unfold RdAt; rw [hb.block g hg]; exact h

theorem RdAt.kept {S : Nat → Prop} {w w' : World} {g : Nat} {s : ByteArray} {a : Nat} (h : RdAt w g s a) (hk : Kept S w w') (hS : ¬ S g) : RdAt w' g s a := by
  unfold RdAt; rw [hk.2.2.2.2 g h.lt hS]; exact h

/-- A step of the reader: its place has gone on, all other old memory is as it was. -/
def RdTo (g : Nat) (s : ByteArray) (b : Nat) (w w' : World) : Prop := RdAt w' g s b ∧ Kept (fun k => k = g) w w'

set_option maxRecDepth 100000 in
set_option maxHeartbeats 1000000 in
theorem number_yes (g : Nat) (s : ByteArray) (a : Nat) (x b : Nat) (hs : s.size ≤ 8000) (hr : readA s (a : Int) = some (x, b)) (w : World) (h : RdAt w g s a) :
    Calls Try.prog 75 #[.pointer (some ⟨g, 0, none⟩)] w fun e w' => e = .returned (.int .i64 (x : Int)) ∧ RdTo g s b w w' := by
  have hv := fun w => implRead_any s (a : Int) (by omega) w
  rw [hr] at hv
  simp only [rvOut] at hv
  have HV := hide hv
  have hlt := h.lt
  have HA := hide h
  obtain ⟨c0, c1, cf⟩ := h.cells
  clear hv hr h cf
  go_enter Try.func75, Try.ntmps75
  go_wp2_with fail
  go_region_held3 (fun u => u.cell? ⟨g, 0, none⟩ = some (.string s) ∧ u.cell? ⟨g, 1, none⟩ = some (.int .i64 (a : Int)))
    (first | go_keep | exact ⟨d0, d1⟩)
    ((go_at_call 78; refine (unhide HV _).mono ?_; rintro e w2 ⟨rfl, hb2⟩; have d0 := (hb2.cell (p := ⟨g, 0, none⟩) hlt).trans c0; have d1 := (hb2.cell (p := ⟨g, 1, none⟩) hlt).trans c1))
  have HA2 := hide ((unhide HA).below ((Below.refl w.heap.size w).drew.trans hb2) hlt)
  have hk2 : Kept (fun k => k = g) w w2 := Kept.of_below ((Below.refl w.heap.size w).drew.trans hb2)
  obtain ⟨e0, e1, ef⟩ := (unhide HA2).cells
  have ef1 := ef 1
  clear hb2 ef d0 d1 c0 c1 HA
  go_wp2_with fail
  refine (want_yes _ _).mono ?_
  rintro e w3 ⟨rfl, rfl⟩
  go_wp2
  go_ret
  exact ⟨rfl, two_one (unhide HA2) _, hk2.trans (Kept.set _ _ _ _ rfl)⟩

set_option maxRecDepth 100000 in
set_option maxHeartbeats 1000000 in
theorem number_no (g : Nat) (s : ByteArray) (a : Nat) (hs : s.size ≤ 8000) (hr : readA s (a : Int) = none) (w : World) (h : RdAt w g s a) :
    Calls Try.prog 75 #[.pointer (some ⟨g, 0, none⟩)] w fun e w' => e = noPg ∧ Kept (fun k => k = g) w w' := by
  have hv := fun w => implRead_any s (a : Int) (by omega) w
  rw [hr] at hv
  simp only [rvOut] at hv
  have HV := hide hv
  have hlt := h.lt
  obtain ⟨c0, c1, cf⟩ := h.cells
  clear hv hr h cf
  go_enter Try.func75, Try.ntmps75
  go_wp2_with fail
  go_region_held3 (fun u => u.cell? ⟨g, 0, none⟩ = some (.string s) ∧ u.cell? ⟨g, 1, none⟩ = some (.int .i64 (a : Int)))
    (first | go_keep | exact ⟨d0, d1⟩)
    ((go_at_call 78; refine (unhide HV _).mono ?_; rintro e w2 ⟨rfl, hb2⟩; have d0 := (hb2.cell (p := ⟨g, 0, none⟩) hlt).trans c0; have d1 := (hb2.cell (p := ⟨g, 1, none⟩) hlt).trans c1))
  have hk2 : Kept (fun k => k = g) w w2 := Kept.of_below ((Below.refl w.heap.size w).drew.trans hb2)
  clear hb2 d0 d1 c0 c1
  go_wp2_with fail
  refine (want_no _ _).mono ?_
  rintro e w3 ⟨rfl, rfl⟩
  exact ⟨rfl, rfl, hk2⟩

set_option maxRecDepth 100000 in
set_option maxHeartbeats 1000000 in
theorem short_yes (g : Nat) (s : ByteArray) (a : Nat) (t : ByteArray) (b : Nat) (hs : s.size ≤ 8000) (hr : rsA s a = some (t, b)) (w : World) (h : RdAt w g s a) :
    Calls Try.prog 79 #[.pointer (some ⟨g, 0, none⟩)] w fun e w' => e = .returned (.string t) ∧ RdTo g s b w w' := by
  have hv := fun w => implRS_any s (a : Int) (by omega) w
  rw [rsOut_some hr] at hv
  have HV := hide hv
  have hlt := h.lt
  have HA := hide h
  obtain ⟨c0, c1, cf⟩ := h.cells
  clear hv hr h cf
  go_enter Try.func79, Try.ntmps79
  go_wp2_with fail
  go_region_held3 (fun u => u.cell? ⟨g, 0, none⟩ = some (.string s) ∧ u.cell? ⟨g, 1, none⟩ = some (.int .i64 (a : Int)))
    (first | go_keep | exact ⟨d0, d1⟩)
    ((go_at_call 82; refine (unhide HV _).mono ?_; rintro e w2 ⟨rfl, hb2⟩; have d0 := (hb2.cell (p := ⟨g, 0, none⟩) hlt).trans c0; have d1 := (hb2.cell (p := ⟨g, 1, none⟩) hlt).trans c1))
  have HA2 := hide ((unhide HA).below ((Below.refl w.heap.size w).drew.trans hb2) hlt)
  have hk2 : Kept (fun k => k = g) w w2 := Kept.of_below ((Below.refl w.heap.size w).drew.trans hb2)
  obtain ⟨e0, e1, ef⟩ := (unhide HA2).cells
  have ef1 := ef 1
  clear hb2 ef d0 d1 c0 c1 HA
  go_wp2_with fail
  refine (want_yes _ _).mono ?_
  rintro e w3 ⟨rfl, rfl⟩
  go_wp2
  go_ret
  exact ⟨rfl, two_one (unhide HA2) _, hk2.trans (Kept.set _ _ _ _ rfl)⟩

set_option maxRecDepth 100000 in
set_option maxHeartbeats 1000000 in
theorem short_no (g : Nat) (s : ByteArray) (a : Nat) (hs : s.size ≤ 8000) (hr : rsA s a = none) (w : World) (h : RdAt w g s a) :
    Calls Try.prog 79 #[.pointer (some ⟨g, 0, none⟩)] w fun e w' => e = noPg ∧ Kept (fun k => k = g) w w' := by
  have hv := fun w => implRS_any s (a : Int) (by omega) w
  rw [rsOut_none hr] at hv
  have HV := hide hv
  have hlt := h.lt
  obtain ⟨c0, c1, cf⟩ := h.cells
  clear hv hr h cf
  go_enter Try.func79, Try.ntmps79
  go_wp2_with fail
  go_region_held3 (fun u => u.cell? ⟨g, 0, none⟩ = some (.string s) ∧ u.cell? ⟨g, 1, none⟩ = some (.int .i64 (a : Int)))
    (first | go_keep | exact ⟨d0, d1⟩)
    ((go_at_call 82; refine (unhide HV _).mono ?_; rintro e w2 ⟨rfl, hb2⟩; have d0 := (hb2.cell (p := ⟨g, 0, none⟩) hlt).trans c0; have d1 := (hb2.cell (p := ⟨g, 1, none⟩) hlt).trans c1))
  have hk2 : Kept (fun k => k = g) w w2 := Kept.of_below ((Below.refl w.heap.size w).drew.trans hb2)
  clear hb2 d0 d1 c0 c1
  go_wp2_with fail
  refine (want_no _ _).mono ?_
  rintro e w3 ⟨rfl, rfl⟩
  exact ⟨rfl, rfl, hk2⟩

set_option maxRecDepth 100000 in
set_option maxHeartbeats 1000000 in
theorem oneByte_yes (g : Nat) (s : ByteArray) (a : Nat) (hs : s.size ≤ 8000) (ha : a < s.size) (w : World) (h : RdAt w g s a) :
    Calls Try.prog 73 #[.pointer (some ⟨g, 0, none⟩)] w fun e w' => e = .returned (.int .i64 ((s[a]'ha).toNat : Int)) ∧ RdTo g s (a + 1) w w' := by
  have hlt := h.lt
  have HA := hide h
  obtain ⟨c0, c1, cf⟩ := h.cells
  have cf1 := cf 1
  have hx0 : (0 : Int) ≤ (a : Int) := by omega
  have hx1 : (a : Int) < (s.size : Int) := by omega
  have hkb : ((s[a]'ha).toNat : Int) ≤ 255 := by have := UInt8.toNat_lt (s[a]'ha); omega
  clear h cf
  go_enter Try.func73, Try.ntmps73
  go_wp2_with fail
  go_region_held3 (fun u => u.cell? ⟨g, 0, none⟩ = some (.string s) ∧ u.cell? ⟨g, 1, none⟩ = some (.int .i64 (a : Int)))
    (first | go_keep | exact ⟨c0, c1⟩)
    ((go_at_call 74; refine (want_yes _ _).mono ?_; rintro e w2 ⟨rfl, rfl⟩))
  go_wp2_with fail
  go_quiet (fail)
  go_wp2
  go_ret
  have hbd : Below w.heap.size w (w.drewN (1 + nq)) := below_drewN (Below.refl _ _) _
  refine ⟨rfl, ?_, (Kept.of_below hbd).trans (Kept.set _ _ _ _ rfl)⟩
  have e : ((a + 1 : Nat) : Int) = (a : Int) + 1 := by omega
  unfold RdAt
  rw [e]
  exact two_one ((unhide HA).below hbd hlt) _

end Go.Proofs.Ytajajfmaekdphaa
