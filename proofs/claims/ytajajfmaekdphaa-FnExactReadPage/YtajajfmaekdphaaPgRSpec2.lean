/-
  The contract of spec.ReadPage, for every text.
-/
import Derived.Test.YtajajfmaekdphaaPgRSpec
namespace Go.Proofs.Ytajajfmaekdphaa
open Go.RowKit

set_option maxRecDepth 100000 in
theorem specRP_out (text s : ByteArray) (b : Bool) (h : b = false ∨ (b = true ∧ (s.size : Int) < 2))
    (HU : Hid (∀ w, Calls Try.prog 46 #[.string text] w fun e w' => e = .returned (.tuple #[.string s, .bool b]) ∧ Below w.heap.size w w')) (w : World) :
    Calls Try.prog 18 #[.string text] w fun e w' => PagePost w none e w' := by
  go_enter Try.func18, Try.ntmps18
  go_wp2_with fail
  obtain ⟨W1, hW1⟩ : ∃ W, W = w.alloc (Obj.cells #[Value.int .i64 0, Value.slice none 0 0] 26) := ⟨_, rfl⟩
  rw [← hW1]
  have hb1 : Below w.heap.size w W1 := by rw [hW1]; exact below_new _ _
  have HR : Hid (Box W1 w.heap.size (.int .i64 0) (.slice none 0 0)) := by show Box _ _ _ _; rw [hW1]; exact Box.new _ _ _
  clear hW1
  refine (unhide HU _).mono ?_
  rintro e w1 ⟨rfl, hbu⟩
  have HR := hide ((unhide HR).below hbu)
  have HB := hide (hb1.trans (hbu.mono hb1.size))
  clear hb1 hbu
  obtain ⟨q0, q1⟩ := (unhide HR).cells
  have qf0 := (unhide HR).froz 0
  have qf1 := (unhide HR).froz 1
  rcases h with rfl | ⟨rfl, h⟩
  all_goals
    go_wp2
    (try simp only [Exit.inBlock, Exit.then])
    refine bodyPost_ret (results_box Try.results18 _ _ w.heap.size _ _ rfl ((unhide HR).two _ _)) rfl ?_
    exact ⟨⟨_, rfl, pageNil _ _⟩, ((unhide HB).setCell (p := ⟨w.heap.size, 0, none⟩) (by simp) _).setCell (p := ⟨w.heap.size, 1, none⟩) (by simp) _⟩

theorem readA_end {s : ByteArray} (h : s.size = 1) : readA s 1 = none := by
  unfold readA
  rw [if_pos (by omega)]
  exact readV_end _ _ _ _ _ _ (by simp; omega)

theorem pgA_short {s : ByteArray} (h : s.size < 2) : pgA s = none := by
  unfold pgA
  split
  · rw [readA_end (by omega)]; rfl
  · rfl

theorem pgA_in {s : ByteArray} (h : 2 ≤ s.size) : pgA s = (readA s 1).bind fun p => (itsA ((s[0]'(by omega)).toNat : Int) s p.1 p.2).map fun Q => (((s[0]'(by omega)).toNat : Int), Q) := by
  unfold pgA
  rw [dif_pos (by omega)]

theorem specRP_any (text : ByteArray) (ht : text.size ≤ 1048576) (w : World) :
    Calls Try.prog 18 #[.string text] w fun e w' => PagePost w (rpA text) e w' := by
  have hu := fun w => specUnsealed_any text (by omega) w
  cases hus : unS text with
  | none =>
    rw [unsealA_none hus] at hu
    rw [show rpA text = none by unfold rpA; rw [hus]; rfl]
    exact specRP_out text _ false (.inl rfl) hu w
  | some s =>
    obtain ⟨e1, hs⟩ := unsealA_some hus
    rw [e1] at hu
    have er : rpA text = (pgA s).bind fun p => heldTo text p.1 p.2 := by unfold rpA; rw [hus]; rfl
    rw [er]
    by_cases h2 : s.size < 2
    · rw [pgA_short h2]
      exact specRP_out text s true (.inr ⟨rfl, by omega⟩) hu w
    · have h2' : 2 ≤ s.size := by omega
      rw [pgA_in h2']
      have hv := fun w => specRead_any s 1 (by omega) w
      cases hr : readA s 1 with
      | none =>
        rw [hr] at hv
        simp only [rvOut] at hv
        exact specRP_in text s h2' hs _ rfl 0 0 false none (by omega) (fun h => by cases h) (fun _ => rfl) hu hv w
      | some p =>
        obtain ⟨n, at0⟩ := p
        rw [hr] at hv
        simp only [rvOut] at hv
        have hra := readA_ahead (a := 1) hr
        have := specRP_in text s h2' hs _ rfl n at0 true (itsA ((s[0]'(by omega)).toNat : Int) s n at0) hra.2.2 (fun _ => ⟨by omega, hra.2.1, rfl⟩) (fun h => by cases h) hu hv w
        refine this.mono fun e w' h => ?_
        have e2 : ((some (n, at0)).bind fun p => (itsA ((s[0]'(by omega)).toNat : Int) s p.1 p.2).map fun Q => (((s[0]'(by omega)).toNat : Int), Q)).bind (fun p => heldTo text p.1 p.2) = (itsA ((s[0]'(by omega)).toNat : Int) s n at0).bind (heldTo text ((s[0]'(by omega)).toNat : Int)) := by
          rw [Option.bind_some]
          cases itsA ((s[0]'(by omega)).toNat : Int) s n at0 <;> rfl
        rw [e2]
        exact h
end Go.Proofs.Ytajajfmaekdphaa
