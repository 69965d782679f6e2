/-
  The contract of the program's reader of a page, for every text.
-/
import Derived.Test.YtajajfmaekdphaaPgPage
namespace Go.Proofs.Ytajajfmaekdphaa
open Go.RowKit

theorem page_empty (g : Nat) (w : World) (hr : RdAt w g ⟨#[]⟩ 0) :
    Calls Try.prog 66 #[.pointer (some ⟨g, 0, none⟩)] w fun e w' => e = noPg ∧ Kept (fun k => k = g) w w' := by
  have hgl := hr.lt
  have HRD := hide hr
  clear hr
  go_enter Try.func66, Try.ntmps66
  go_wp2_with fail
  refine (oneByte_no g _ ((unhide HRD).below (below_new _ _) hgl)).mono ?_
  rintro e w2 ⟨rfl, hk2⟩
  exact ⟨rfl, rfl, ((Kept.refl _ _).alloc _).trans hk2⟩

set_option maxRecDepth 100000 in
set_option maxHeartbeats 1000000 in
theorem page_kind (g : Nat) (s : ByteArray) (hs : s.size ≤ 8000) (h0 : 0 < s.size) (k : Int) (hk : ((s[0]'h0).toNat : Int) = k) (h1 : k ≠ 1) (h2 : k ≠ 2) (w : World) (hr : RdAt w g s 0) :
    Calls Try.prog 66 #[.pointer (some ⟨g, 0, none⟩)] w fun e w' => e = noPg ∧ Kept (fun k => k = g) w w' := by
  have hob := fun w h => oneByte_yes g s 0 hs h0 w h
  rw [hk] at hob
  have HOB := hide hob
  have HKO := hide (kindOf_no k h1 h2)
  have hgl := hr.lt
  have HRD := hide hr
  clear hob hr hk h0 h1 h2
  go_enter Try.func66, Try.ntmps66
  go_wp2_with fail
  refine (unhide HOB _ ((unhide HRD).below (below_new _ _) hgl)).mono ?_
  rintro e w2 ⟨rfl, _, hk2⟩
  have hk2 : Kept (fun k => k = g) w w2 := ((Kept.refl _ _).alloc _).trans hk2
  go_wp2_with fail
  refine (unhide HKO _).mono ?_
  rintro e w9 ⟨rfl, rfl⟩
  go_wp2_with fail
  refine (want_no _ _).mono ?_
  rintro e w9 ⟨rfl, rfl⟩
  exact ⟨rfl, rfl, hk2.alloc _⟩

set_option maxRecDepth 100000 in
set_option maxHeartbeats 1000000 in
theorem page_number_one (g : Nat) (s : ByteArray) (hs : s.size ≤ 8000) (h0 : 0 < s.size) (hk : ((s[0]'h0).toNat : Int) = 1) (h1 : readA s 1 = none) (w : World) (hr : RdAt w g s 0) :
    Calls Try.prog 66 #[.pointer (some ⟨g, 0, none⟩)] w fun e w' => e = noPg ∧ Kept (fun k => k = g) w w' := by
  have hob := fun w h => oneByte_yes g s 0 hs h0 w h
  rw [hk] at hob
  have HOB := hide hob
  have HNU := hide (fun w h => number_no g s 1 hs h1 w h)
  have hgl := hr.lt
  have HRD := hide hr
  clear hob hr hk h0 h1
  go_enter Try.func66, Try.ntmps66
  go_wp2_with fail
  refine (unhide HOB _ ((unhide HRD).below (below_new _ _) hgl)).mono ?_
  rintro e w2 ⟨rfl, hrd2, hk2⟩
  have hk2 : Kept (fun k => k = g) w w2 := ((Kept.refl _ _).alloc _).trans hk2
  have HRD2 := hide hrd2
  clear hrd2
  go_wp2_with fail
  refine (kindOf_one _).mono ?_
  rintro e w9 ⟨rfl, rfl⟩
  go_wp2_with fail
  refine (want_yes _ _).mono ?_
  rintro e w9 ⟨rfl, rfl⟩
  go_wp2_with fail
  refine (unhide HNU _ ((unhide HRD2).below (below_new _ _) (unhide HRD2).lt)).mono ?_
  rintro e w3 ⟨rfl, hk3⟩
  exact ⟨rfl, rfl, (hk2.alloc _).trans hk3⟩

set_option maxRecDepth 100000 in
set_option maxHeartbeats 1000000 in
theorem page_number_two (g : Nat) (s : ByteArray) (hs : s.size ≤ 8000) (h0 : 0 < s.size) (hk : ((s[0]'h0).toNat : Int) = 2) (h1 : readA s 1 = none) (w : World) (hr : RdAt w g s 0) :
    Calls Try.prog 66 #[.pointer (some ⟨g, 0, none⟩)] w fun e w' => e = noPg ∧ Kept (fun k => k = g) w w' := by
  have hob := fun w h => oneByte_yes g s 0 hs h0 w h
  rw [hk] at hob
  have HOB := hide hob
  have HNU := hide (fun w h => number_no g s 1 hs h1 w h)
  have hgl := hr.lt
  have HRD := hide hr
  clear hob hr hk h0 h1
  go_enter Try.func66, Try.ntmps66
  go_wp2_with fail
  refine (unhide HOB _ ((unhide HRD).below (below_new _ _) hgl)).mono ?_
  rintro e w2 ⟨rfl, hrd2, hk2⟩
  have hk2 : Kept (fun k => k = g) w w2 := ((Kept.refl _ _).alloc _).trans hk2
  have HRD2 := hide hrd2
  clear hrd2
  go_wp2_with fail
  refine (kindOf_two _).mono ?_
  rintro e w9 ⟨rfl, rfl⟩
  go_wp2_with fail
  refine (want_yes _ _).mono ?_
  rintro e w9 ⟨rfl, rfl⟩
  go_wp2_with fail
  refine (unhide HNU _ ((unhide HRD2).below (below_new _ _) (unhide HRD2).lt)).mono ?_
  rintro e w3 ⟨rfl, hk3⟩
  exact ⟨rfl, rfl, (hk2.alloc _).trans hk3⟩

/-- What the reader of a page tells. -/
def pgI (s : ByteArray) : Option (Int × List It) := (pgA s).bind fun p => if p.1 = 1 ∨ p.1 = 2 then some p else none

/-- What the reader leaves: a page, or its own panic. -/
def PgPostO (w : World) (g : Nat) (o : Option (Int × List It)) (e : Ending) (w' : World) : Prop :=
  (∀ k Q, o = some (k, Q) → ∃ d, e = .returned d ∧ PageOwn w' w.heap.size d k Q) ∧ (o = none → e = noPg) ∧ Kept (fun k => k = g) w w'

theorem PgPostO.no {w : World} {g : Nat} {o : Option (Int × List It)} {e : Ending} {w' : World} (h : o = none) (hk : e = noPg ∧ Kept (fun k => k = g) w w') : PgPostO w g o e w' :=
  ⟨fun k Q e => (by rw [h] at e; cases e), fun _ => hk.1, hk.2⟩

theorem pgA_pos {s : ByteArray} (h : 0 < s.size) : pgA s = (readA s 1).bind fun p => (itsA ((s[0]'h).toNat : Int) s p.1 p.2).map fun Q => (((s[0]'h).toNat : Int), Q) := by
  unfold pgA
  rw [dif_pos h]

theorem pgI_kind {s : ByteArray} (h : 0 < s.size) (h1 : ((s[0]'h).toNat : Int) ≠ 1) (h2 : ((s[0]'h).toNat : Int) ≠ 2) : pgI s = none := by
  unfold pgI
  rw [pgA_pos h]
  cases readA s 1 with
  | none => rfl
  | some p =>
    rw [Option.bind_some]
    cases itsA ((s[0]'h).toNat : Int) s p.1 p.2 with
    | none => rfl
    | some Q => simp only [Option.map_some, Option.bind_some]; rw [if_neg (fun e => by rcases e with e | e; exact h1 e; exact h2 e)]

theorem pgI_right {s : ByteArray} (h : 0 < s.size) {k : Int} (hk : k = 1 ∨ k = 2) (h1 : ((s[0]'h).toNat : Int) = k) {n a : Nat} (hr : readA s 1 = some (n, a)) : pgI s = (itsA k s n a).map fun Q => (k, Q) := by
  unfold pgI
  rw [pgA_pos h, hr, Option.bind_some, h1]
  cases itsA k s n a with
  | none => rfl
  | some Q => simp only [Option.map_some, Option.bind_some]; rw [if_pos hk]

theorem pgI_none {s : ByteArray} (h : 0 < s.size) (hr : readA s 1 = none) : pgI s = none := by
  unfold pgI
  rw [pgA_pos h, hr]
  rfl

theorem PgPost.to {w : World} {g : Nat} {k : Int} {tot : Option (List It)} {e : Ending} {w' : World} (h : PgPost w g k tot e w') : PgPostO w g (tot.map fun Q => (k, Q)) e w' := by
  obtain ⟨h1, h2, h3⟩ := h
  refine ⟨fun k' Q e => ?_, fun e => h2 (by cases tot with | none => rfl | some Q => simp at e), h3⟩
  cases tot with
  | none => simp at e
  | some Q' =>
    simp at e
    obtain ⟨rfl, rfl⟩ := e
    exact h1 _ rfl

theorem page_any (g : Nat) (s : ByteArray) (hs : s.size ≤ 8000) (w : World) (hr : RdAt w g s 0) :
    Calls Try.prog 66 #[.pointer (some ⟨g, 0, none⟩)] w fun e w' => PgPostO w g (pgI s) e w' := by
  by_cases h0 : 0 < s.size
  · by_cases hk : ((s[0]'h0).toNat : Int) = 1
    · cases h1 : readA s 1 with
      | none => exact (page_number_one g s hs h0 hk h1 w hr).mono fun e w' h => PgPostO.no (pgI_none h0 h1) h
      | some p =>
        obtain ⟨n, a⟩ := p
        rw [pgI_right h0 (.inl rfl) hk h1]
        exact (page_in_one g s hs h0 hk n a h1 _ rfl w hr).mono fun e w' h => h.to
    · by_cases hk2 : ((s[0]'h0).toNat : Int) = 2
      · cases h1 : readA s 1 with
        | none => exact (page_number_two g s hs h0 hk2 h1 w hr).mono fun e w' h => PgPostO.no (pgI_none h0 h1) h
        | some p =>
          obtain ⟨n, a⟩ := p
          rw [pgI_right h0 (.inr rfl) hk2 h1]
          exact (page_in_two g s hs h0 hk2 n a h1 _ rfl w hr).mono fun e w' h => h.to
      · exact (page_kind g s hs h0 _ rfl hk hk2 w hr).mono fun e w' h => PgPostO.no (pgI_kind h0 hk hk2) h
  · have e : s = ⟨#[]⟩ := by
      cases s with | mk d => cases d with | mk l => cases l with
        | nil => rfl
        | cons b l => exact absurd (by simp [ByteArray.size]) h0
    subst e
    refine (page_empty g w hr).mono fun e w' h => PgPostO.no ?_ h
    unfold pgI pgA
    rw [dif_neg (by simp [ByteArray.size])]
    rfl
end Go.Proofs.Ytajajfmaekdphaa
