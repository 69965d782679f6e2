/-
  The contract of impl.ReadPage.
-/
import Derived.Test.YtajajfmaekdphaaPgIn
import Derived.Test.YtajajfmaekdphaaPgText2
namespace Go.Proofs.Ytajajfmaekdphaa
open Go.RowKit

theorem pgI_in {s : ByteArray} {k : Int} {Q : List It} (h : pgI s = some (k, Q)) : Small Q ∧ Q.length ≤ s.size := by
  unfold pgI at h
  cases hp : pgA s with
  | none => rw [hp] at h; cases h
  | some p =>
    rw [hp, Option.bind_some] at h
    split at h
    · cases h
      unfold pgA at hp
      split at hp
      · rename_i h0
        cases hr : readA s 1 with
        | none => rw [hr] at hp; cases hp
        | some q =>
          obtain ⟨n, a⟩ := q
          have hra := readA_ahead (a := 1) hr
          rw [hr, Option.bind_some] at hp
          cases hi : itsA ((s[0]'h0).toNat : Int) s n a with
          | none => simp only [hi] at hp; cases hp
          | some Q' =>
            simp only [hi] at hp
            cases hp
            have h3 := itsA_small hi
            have := h3.2 hra.2.1
            exact ⟨h3.1, by omega⟩
      · cases hp
    · cases h

theorem held_I (text s : ByteArray) : (pgA s).bind (fun p => heldTo text p.1 p.2) = (pgI s).bind (fun p => heldTo text p.1 p.2) := by
  unfold pgI
  cases pgA s with
  | none => rfl
  | some p =>
    rw [Option.bind_some, Option.bind_some]
    split
    · rfl
    · rename_i h
      exact heldTo_no (fun e => h e.1)

set_option maxRecDepth 100000 in
set_option maxHeartbeats 1000000 in
theorem implRP_out (text s : ByteArray) (b : Bool) (hs : s.size ≤ 8000) (h : b = false ∨ (b = true ∧ pgI s = none)) (o : Option (Int × List It)) (ho : o = none)
    (HU : Hid (∀ w, Calls Try.prog 38 #[.string text] w fun e w' => e = .returned (.tuple #[.string s, .bool b]) ∧ Below w.heap.size w w')) (w : World) :
    Calls Try.prog 12 #[.string text] w fun e w' => PagePost w o e w' := by
  have HN := hide ho
  clear ho
  go_enter Try.func12, Try.ntmps12
  go_wp2_with fail
  obtain ⟨W1, hW1⟩ : ∃ W, W = w.alloc (Obj.cells #[Value.int .i64 0, Value.slice none 0 0] 26) := ⟨_, rfl⟩
  rw [← hW1]
  have hb1 : Below w.heap.size w W1 := by rw [hW1]; exact below_new _ _
  have HR : Hid (Box W1 w.heap.size (.int .i64 0) (.slice none 0 0)) := by show Box _ _ _ _; rw [hW1]; exact Box.new _ _ _
  clear hW1
  refine (unhide HU _).mono ?_
  rintro e w1 ⟨rfl, hbu⟩
  have HR := hide ((unhide HR).below hbu)
  have hRw1 : w.heap.size < w1.heap.size := (unhide HR).lt
  have hc1 : Below w.heap.size w w1 := hb1.trans (hbu.mono hb1.size)
  clear hb1 hbu
  go_wp2_with fail
  refine (pageIn_any s hs w1).mono ?_
  rintro e w2 ⟨⟨d, rfl, hown⟩, hb2⟩
  have HR := hide ((unhide HR).below hb2)
  have HB := hide (hc1.trans (hb2.mono hc1.size))
  obtain ⟨v1, rfl, hrow⟩ := hown
  obtain ⟨A, C, rfl, _⟩ := ItemsAt.of_own hrow
  have HO := hide hrow
  clear hrow hb2
  obtain ⟨q0, q1⟩ := ((unhide HR).below (below_new w2 (Obj.cells #[Value.int .i64 (pgK (pgI s)), Value.slice A (pgQ (pgI s)).length C] 26))).cells
  have qf0 := ((unhide HR).below (below_new w2 (Obj.cells #[Value.int .i64 (pgK (pgI s)), Value.slice A (pgQ (pgI s)).length C] 26))).froz 0
  have qf1 := ((unhide HR).below (below_new w2 (Obj.cells #[Value.int .i64 (pgK (pgI s)), Value.slice A (pgQ (pgI s)).length C] 26))).froz 1
  have HR := hide ((unhide HR).below (below_new w2 (Obj.cells #[Value.int .i64 (pgK (pgI s)), Value.slice A (pgQ (pgI s)).length C] 26)))
  have HB := hide ((unhide HB).trans ((below_new w2 (Obj.cells #[Value.int .i64 (pgK (pgI s)), Value.slice A (pgQ (pgI s)).length C] 26)).mono (unhide HB).size))
  generalize pgK (pgI s) = kk at *
  generalize (pgQ (pgI s)).length = nn at *
  rcases h with rfl | ⟨rfl, hi⟩
  · generalize (pgI s).isSome = bb
    go_wp2
    (try simp only [Exit.inBlock, Exit.then])
    refine bodyPost_ret (results_box Try.results12 _ _ w.heap.size _ _ rfl ((unhide HR).two _ _)) rfl ?_
    rw [unhide HN]
    exact ⟨⟨_, rfl, pageNil _ _⟩, ((unhide HB).setCell (p := ⟨w.heap.size, 0, none⟩) (by simp) _).setCell (p := ⟨w.heap.size, 1, none⟩) (by simp) _⟩
  · have hbb : (pgI s).isSome = false := by rw [hi]; rfl
    rw [hbb]
    go_wp2
    (try simp only [Exit.inBlock, Exit.then])
    refine bodyPost_ret (results_box Try.results12 _ _ w.heap.size _ _ rfl ((unhide HR).two _ _)) rfl ?_
    rw [unhide HN]
    exact ⟨⟨_, rfl, pageNil _ _⟩, ((unhide HB).setCell (p := ⟨w.heap.size, 0, none⟩) (by simp) _).setCell (p := ⟨w.heap.size, 1, none⟩) (by simp) _⟩

set_option maxRecDepth 100000 in
set_option maxHeartbeats 2000000 in
theorem implRP_in (text s : ByteArray) (hs : s.size ≤ 8000) (k : Int) (Q : List It) (hi : pgI s = some (k, Q))
    (HU : Hid (∀ w, Calls Try.prog 38 #[.string text] w fun e w' => e = .returned (.tuple #[.string s, .bool true]) ∧ Below w.heap.size w w')) (w : World) :
    Calls Try.prog 12 #[.string text] w fun e w' => PagePost w (heldTo text k Q) e w' := by
  have hsm := pgI_in hi
  have HSM := hide hsm
  have HI := hide hi
  clear hsm hi
  go_enter Try.func12, Try.ntmps12
  go_wp2_with fail
  obtain ⟨W1, hW1⟩ : ∃ W, W = w.alloc (Obj.cells #[Value.int .i64 0, Value.slice none 0 0] 26) := ⟨_, rfl⟩
  rw [← hW1]
  have hb1 : Below w.heap.size w W1 := by rw [hW1]; exact below_new _ _
  have HR : Hid (Box W1 w.heap.size (.int .i64 0) (.slice none 0 0)) := by show Box _ _ _ _; rw [hW1]; exact Box.new _ _ _
  clear hW1
  refine (unhide HU _).mono ?_
  rintro e w1 ⟨rfl, hbu⟩
  have HR := hide ((unhide HR).below hbu)
  have hRw1 : w.heap.size < w1.heap.size := (unhide HR).lt
  have hc1 : Below w.heap.size w w1 := hb1.trans (hbu.mono hb1.size)
  clear hb1 hbu
  go_wp2_with fail
  refine (pageIn_any s hs w1).mono ?_
  rintro e w2 ⟨⟨d, rfl, hown⟩, hb2⟩
  have HR := hide ((unhide HR).below hb2)
  have HB := hide (hc1.trans (hb2.mono hc1.size))
  rw [unhide HI] at hown ⊢
  simp only [pgK, pgQ, Option.map_some, Option.getD_some, Option.isSome_some] at hown ⊢
  obtain ⟨v1, rfl, hrow⟩ := hown
  obtain ⟨A, C, rfl, _⟩ := ItemsAt.of_own hrow
  have HO := hide hrow
  clear hrow hb2
  have hRG : w.heap.size < w2.heap.size := (unhide HR).lt
  go_wp2_with fail
  obtain ⟨W3, hW3⟩ : ∃ W, W = w2.alloc (Obj.cells #[Value.int .i64 k, Value.slice A Q.length C] 26) := ⟨_, rfl⟩
  rw [← hW3]
  have hb3 : Below w2.heap.size w2 W3 := by rw [hW3]; exact below_new _ _
  have HG : Hid (Box W3 w2.heap.size (.int .i64 k) (.slice A Q.length C)) := by show Box _ _ _ _; rw [hW3]; exact Box.new _ _ _
  have HR := hide ((unhide HR).below hb3)
  have HO := hide (own_below (unhide HO) hb3)
  have HB := hide ((unhide HB).trans (hb3.mono (unhide HB).size))
  obtain ⟨G, hGe⟩ : ∃ G, G = w2.heap.size := ⟨_, rfl⟩
  rw [← hGe] at HG hRG ⊢
  clear hW3 hb3 hGe
  have hat : PageAt W3 (.agg #[.int .i64 k, .slice A Q.length C]) W3.heap.size k Q := by
    obtain ⟨a', c', e, hq⟩ := ItemsAt.of_own (unhide HO)
    simp at e
    obtain ⟨rfl, rfl⟩ := e
    exact ⟨_, _, _, rfl, hq⟩
  have HPT := hide (implPage_any _ W3.heap.size k Q (by have := (unhide HSM).2; omega) (fun x hx => by have := (unhide HSM).1 x hx; omega) W3 (Nat.le_refl _) hat)
  have HOL := hide (unhide HO).lt
  clear hat
  by_cases hp : PageOk k Q
  · rw [pageA_yes hp] at HPT
    cases hq : ((sealB (pageTo k Q Q.length)).toList == text.toList)
    · have hne : sealB (pageTo k Q Q.length) ≠ text := fun e => by rw [e] at hq; simp at hq
      have HN := hide (heldTo_other (k := k) (Q := Q) hne)
      generalize sealB (pageTo k Q Q.length) = out at HPT hq
      clear hp hne
      refine (unhide HPT).mono ?_
      rintro e w7 ⟨rfl, hb7⟩
      have HG := hide ((unhide HG).below hb7)
      have HR := hide ((unhide HR).below hb7)
      have HO := hide (own_below (unhide HO) hb7)
      have HB := hide ((unhide HB).trans (hb7.mono (unhide HB).size))
      clear hb7 HPT
      obtain ⟨g0, g1⟩ := (unhide HG).cells
      obtain ⟨q0, q1⟩ := (unhide HR).cells
      have qf0 := (unhide HR).froz 0
      have qf1 := (unhide HR).froz 1
      go_wp2
      (try simp only [Exit.inBlock, Exit.then])
      refine bodyPost_ret (results_box Try.results12 _ _ w.heap.size _ _ rfl ((unhide HR).two _ _)) rfl ?_
      rw [unhide HN]
      exact ⟨⟨_, rfl, pageNil _ _⟩, ((unhide HB).setCell (p := ⟨w.heap.size, 0, none⟩) (by simp) _).setCell (p := ⟨w.heap.size, 1, none⟩) (by simp) _⟩
    · have he : sealB (pageTo k Q Q.length) = text := toList_inj (eq_of_beq hq)
      have HN := hide (heldTo_yes hp he)
      generalize sealB (pageTo k Q Q.length) = out at HPT hq
      clear hp he
      refine (unhide HPT).mono ?_
      rintro e w7 ⟨rfl, hb7⟩
      have HG := hide ((unhide HG).below hb7)
      have HR := hide ((unhide HR).below hb7)
      have HO := hide (own_below (unhide HO) hb7)
      have HB := hide ((unhide HB).trans (hb7.mono (unhide HB).size))
      clear hb7 HPT
      obtain ⟨g0, g1⟩ := (unhide HG).cells
      obtain ⟨q0, q1⟩ := (unhide HR).cells
      have qf0 := (unhide HR).froz 0
      have qf1 := (unhide HR).froz 1
      have hne0 : ∀ g, (Value.slice A Q.length C).ownBlock = some g → g ≠ w.heap.size := fun g hg e => by have := (unhide HO).lt g hg; omega
      have hRG1 : ¬ w.heap.size = G := by omega
      have hRG2 : ¬ G = w.heap.size := by omega
      go_wp2
      (try simp only [Exit.inBlock, Exit.then])
      refine bodyPost_ret (results_box Try.results12 _ _ w.heap.size _ _ rfl ((unhide HR).two _ _)) rfl ?_
      rw [unhide HN]
      refine ⟨⟨_, rfl, _, rfl, ?_⟩, ((unhide HB).setCell (p := ⟨w.heap.size, 0, none⟩) (by simp) _).setCell (p := ⟨w.heap.size, 1, none⟩) (by simp) _⟩
      show World.ownsRow _ _ _ _ _ Q.length (itsV Q)
      exact own_lower hc1.size (ownsRow_setCell_other (a := ⟨w.heap.size, 1, none⟩) (ownsRow_setCell_other (a := ⟨w.heap.size, 0, none⟩) (unhide HO) (fun e => hne0 _ e rfl) _) (fun e => hne0 _ e rfl) _)
  · have HN := hide (heldTo_no (text := text) hp)
    rw [pageA_no hp] at HPT
    clear hp
    refine (unhide HPT).mono ?_
    rintro e w7 ⟨rfl, hb7⟩
    have HG := hide ((unhide HG).below hb7)
    have HR := hide ((unhide HR).below hb7)
    have HO := hide (own_below (unhide HO) hb7)
    have HB := hide ((unhide HB).trans (hb7.mono (unhide HB).size))
    clear hb7 HPT
    obtain ⟨g0, g1⟩ := (unhide HG).cells
    obtain ⟨q0, q1⟩ := (unhide HR).cells
    have qf0 := (unhide HR).froz 0
    have qf1 := (unhide HR).froz 1
    go_wp2
    (try simp only [Exit.inBlock, Exit.then])
    refine bodyPost_ret (results_box Try.results12 _ _ w.heap.size _ _ rfl ((unhide HR).two _ _)) rfl ?_
    rw [unhide HN]
    exact ⟨⟨_, rfl, pageNil _ _⟩, ((unhide HB).setCell (p := ⟨w.heap.size, 0, none⟩) (by simp) _).setCell (p := ⟨w.heap.size, 1, none⟩) (by simp) _⟩

theorem implRP_any (text : ByteArray) (ht : text.size ≤ 1048576) (w : World) :
    Calls Try.prog 12 #[.string text] w fun e w' => PagePost w (rpA text) e w' := by
  have hu := fun w => implUnsealed_any text (by omega) w
  cases hus : unS text with
  | none =>
    rw [unsealA_none hus] at hu
    exact implRP_out text _ false size_none (.inl rfl) _ (by unfold rpA; rw [hus]; rfl) hu w
  | some s =>
    obtain ⟨e1, hs⟩ := unsealA_some hus
    rw [e1] at hu
    have er : rpA text = (pgI s).bind fun p => heldTo text p.1 p.2 := by unfold rpA; rw [hus, Option.bind_some]; exact held_I text s
    cases hi : pgI s with
    | none => exact implRP_out text s true hs (.inr ⟨rfl, hi⟩) _ (by rw [er, hi]; rfl) hu w
    | some p =>
      obtain ⟨k, Q⟩ := p
      rw [er, hi, Option.bind_some]
      exact implRP_in text s hs k Q hi hu w
end Go.Proofs.Ytajajfmaekdphaa
