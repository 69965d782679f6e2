/-
 Ri0, Ri1, Ri2.
-/
import Derived.Test.YtihnaddfpmjpaaaGreatDoorJ40
import Derived.Test.YtihnaddfpmjpaaaGreatDoorJ25
import Derived.Test.YtihnaddfpmjpaaaGreatDoorJ18
import Derived.Test.YtihnaddfpmjpaaaGreatDoorJ14
import Derived.Lib.AppendIntMem
import Derived.BigQuiet
namespace Go.Proofs.YtihnaddfpmjpaaaGreatDoor
namespace Rg
open Go.RowKit
open Gr (Blk Kept)
def linkCell (o : Option (Nat × Nat × Nat)) (k : Nat) : Value :=
  match o with
  | none => if k = 0 then .bool false else .int .i64 0
  | some (x, y, z) => if k = 0 then .bool true else .int .i64 ((if k = 1 then x else if k = 2 then y else z : Nat) : Int)
def cellR (R : Rgs) (v : Value) (i : Nat) : Value :=
  if i < 24 then .int .i64 ((if i % 2 = 0 then (R.mem (i / 2)).1 else (R.mem (i / 2)).2 : Nat) : Int)
  else if i < 600 then linkCell (R.lnk ((i - 24) / 48) ((i - 24) % 48 / 4)) (i % 4) else v
def regC (R : Rgs) (v : Value) : Array Value := ((List.range 601).map (cellR R v)).toArray
theorem regC_size (R : Rgs) (v : Value) : (regC R v).size = 601 := by unfold regC; simp
theorem regC_at (R : Rgs) (v : Value) (i : Nat) (h : i < 601) : (regC R v)[i]? = some (cellR R v i) := by
  unfold regC
  simp [h]
theorem regC_ext {R : Rgs} {v : Value} {C : Array Value} (hs : C.size = 601) (h : ∀ i, i < 601 → C[i]? = some (cellR R v i)) : C = regC R v := by
  apply Array.ext_getElem?
  intro i
  rcases Nat.lt_or_ge i 601 with hi | hi
  · rw [h i hi, regC_at R v i hi]
  · rw [Array.getElem?_eq_none (by omega), Array.getElem?_eq_none (by rw [regC_size]; omega)]
theorem cell_mem0 (R : Rgs) (v : Value) (a : Nat) (h : a < 12) : cellR R v (a * 2) = .int .i64 (((R.mem a).1 : Nat) : Int) := by
  unfold cellR
  rw [if_pos (by omega), if_pos (by omega), show a * 2 / 2 = a by omega]
theorem cell_mem1 (R : Rgs) (v : Value) (a : Nat) (h : a < 12) : cellR R v (a * 2 + 1) = .int .i64 (((R.mem a).2 : Nat) : Int) := by
  unfold cellR
  rw [if_pos (by omega), if_neg (by omega), show (a * 2 + 1) / 2 = a by omega]
theorem cell_link (R : Rgs) (v : Value) (a b k : Nat) (ha : a < 12) (hb : b < 12) (hk : k < 4) : cellR R v (24 + a * 48 + b * 4 + k) = linkCell (R.lnk a b) k := by
  unfold cellR
  rw [if_neg (by omega), if_pos (by omega), show (24 + a * 48 + b * 4 + k - 24) / 48 = a by omega, show (24 + a * 48 + b * 4 + k - 24) % 48 / 4 = b by omega, show (24 + a * 48 + b * 4 + k) % 4 = k by omega]
theorem cell_rds (R : Rgs) (v : Value) : cellR R v 600 = v := by unfold cellR; rw [if_neg (by omega), if_neg (by omega)]
theorem get_set (C : Array Value) (k : Nat) (x : Value) (i : Nat) (hi : i < C.size) : (C.setIfInBounds k x)[i]? = if i = k then some x else C[i]? := by
  by_cases h : k = i
  · subst h
    rw [Array.getElem?_setIfInBounds_self, if_pos rfl]
    simp [hi]
  · rw [Array.getElem?_setIfInBounds_ne h, if_neg (by omega)]
theorem set_mem (R : Rgs) (v : Value) (a : Nat) (h : a < 12) (s : Nat × Nat) : ((regC R v).setIfInBounds (a * 2) (.int .i64 ((s.1 : Nat) : Int))).setIfInBounds (a * 2 + 1) (.int .i64 ((s.2 : Nat) : Int)) = regC { R with mem := fun i => if i = a then s else R.mem i } v := by
  refine regC_ext (by simp [regC_size]) (fun i hi => ?_)
  rw [get_set _ _ _ _ (by simp [regC_size]; exact hi), get_set _ _ _ _ (by rw [regC_size]; exact hi), regC_at R v i hi]
  by_cases h1 : i = a * 2 + 1
  · subst h1
    rw [if_pos rfl, cell_mem1 _ v a h]
    simp
  · rw [if_neg h1]
    by_cases h2 : i = a * 2
    · subst h2
      rw [if_pos rfl, cell_mem0 _ v a h]
      simp
    · rw [if_neg h2]
      unfold cellR
      by_cases h3 : i < 24
      · rw [if_pos h3, if_pos h3]
        have : i / 2 ≠ a := by omega
        simp [this]
      · rw [if_neg h3, if_neg h3]
theorem set_link (R : Rgs) (v : Value) (a b : Nat) (ha : a < 12) (hb : b < 12) (x y z : Nat) :
    ((((regC R v).setIfInBounds (24 + a * 48 + b * 4) (.bool true)).setIfInBounds (24 + a * 48 + b * 4 + 1) (.int .i64 (x : Int))).setIfInBounds (24 + a * 48 + b * 4 + 2) (.int .i64 (y : Int))).setIfInBounds (24 + a * 48 + b * 4 + 3) (.int .i64 (z : Int)) = regC { R with lnk := fun i j => if i = a ∧ j = b then some (x, y, z) else R.lnk i j } v := by
  refine regC_ext (by simp [regC_size]) (fun i hi => ?_)
  rw [get_set _ _ _ _ (by simp [regC_size]; exact hi), get_set _ _ _ _ (by simp [regC_size]; exact hi), get_set _ _ _ _ (by simp [regC_size]; exact hi), get_set _ _ _ _ (by rw [regC_size]; exact hi), regC_at R v i hi]
  by_cases h3 : i = 24 + a * 48 + b * 4 + 3
  · subst h3
    rw [if_pos rfl, cell_link _ v a b 3 ha hb (by omega)]
    simp [linkCell]
  · rw [if_neg h3]
    by_cases h2 : i = 24 + a * 48 + b * 4 + 2
    · subst h2
      rw [if_pos rfl, cell_link _ v a b 2 ha hb (by omega)]
      simp [linkCell]
    · rw [if_neg h2]
      by_cases h1 : i = 24 + a * 48 + b * 4 + 1
      · subst h1
        rw [if_pos rfl, cell_link _ v a b 1 ha hb (by omega)]
        simp [linkCell]
      · rw [if_neg h1]
        by_cases h0 : i = 24 + a * 48 + b * 4
        · subst h0
          rw [if_pos rfl, show 24 + a * 48 + b * 4 = 24 + a * 48 + b * 4 + 0 by omega, cell_link _ v a b 0 ha hb (by omega)]
          simp [linkCell]
        · rw [if_neg h0]
          unfold cellR
          by_cases h4 : i < 24
          · rw [if_pos h4, if_pos h4]
          · rw [if_neg h4, if_neg h4]
            by_cases h5 : i < 600
            · rw [if_pos h5, if_pos h5]
              have : ¬ ((i - 24) / 48 = a ∧ (i - 24) % 48 / 4 = b) := by omega
              simp [this]
            · rw [if_neg h5, if_neg h5]
theorem set_rds (R : Rgs) (v v' : Value) (L : List (List Int × List ByteArray)) : (regC R v).setIfInBounds 600 v' = regC { R with rds := L } v' := by
  refine regC_ext (by simp [regC_size]) (fun i hi => ?_)
  rw [get_set _ _ _ _ (by rw [regC_size]; exact hi), regC_at R v i hi]
  by_cases h : i = 600
  · subst h; rw [if_pos rfl, cell_rds]
  · rw [if_neg h]
    unfold cellR
    by_cases h4 : i < 24
    · rw [if_pos h4, if_pos h4]
    · rw [if_neg h4, if_neg h4, if_pos (by omega), if_pos (by omega)]
theorem rds_any (R : Rgs) (v : Value) (L : List (List Int × List ByteArray)) : regC { R with rds := L } v = regC R v := by
  refine regC_ext (regC_size _ _) (fun i hi => ?_)
  rw [regC_at _ v i hi]
  rfl
def flat (vs : List (Value × Value)) : List Value := vs.flatMap fun p => [p.1, p.2]
theorem flat_at : ∀ (vs : List (Value × Value)) (j : Nat) (h : j < vs.length), (flat vs)[j * 2]? = some vs[j].1 ∧ (flat vs)[j * 2 + 1]? = some vs[j].2
  | [], j, h => by simp at h
  | p :: r, 0, _ => ⟨rfl, rfl⟩
  | p :: r, j + 1, h => by
    have ih := flat_at r j (by simpa using h)
    have e : flat (p :: r) = p.1 :: p.2 :: flat r := rfl
    rw [e, show (j + 1) * 2 = j * 2 + 1 + 1 by omega]
    simpa using ih
theorem flat_snoc (vs : List (Value × Value)) (p : Value × Value) : flat (vs ++ [p]) = flat vs ++ [p.1, p.2] := by unfold flat; simp
theorem flat_set : ∀ (vs : List (Value × Value)) (j : Nat) (h : j < vs.length) (u : Value), (flat vs).set (j * 2 + 1) u = flat (vs.set j (vs[j].1, u))
  | [], j, h, u => by simp at h
  | p :: r, 0, _, u => rfl
  | p :: r, j + 1, h, u => by
    have ih := flat_set r j (by simpa using h) u
    have e : ∀ q L, flat (q :: L) = q.1 :: q.2 :: flat L := fun _ _ => rfl
    rw [e, show (j + 1) * 2 + 1 = (j * 2 + 1) + 1 + 1 by omega, List.set_cons_succ, List.set_cons_succ, ih]
    simp [e]
/-- Rounds in memory: all of it made since B. -/
structure RdsAt (w : World) (B : Nat) (v : Value) (vs : List (Value × Value)) (L : List (List Int × List ByteArray)) : Prop where
  len : vs.length = L.length
  own : w.ownsRow B 143 2 v L.length (flat vs)
  pool : ∀ j (h1 : j < vs.length) (h2 : j < L.length), w.ownsRow B 3 1 vs[j].1 L[j].1.length (Gr.intsV L[j].1)
  part : ∀ j (h1 : j < vs.length) (h2 : j < L.length), w.ownsRow B 9 1 vs[j].2 L[j].2.length (Gr.textsV L[j].2)
  dist : ∀ i j (hi : i < vs.length) (hj : j < vs.length) g, vs[i].2.ownBlock = some g → vs[j].2.ownBlock = some g → i = j
theorem RdsAt.below {w w' : World} {B : Nat} {v : Value} {vs : List (Value × Value)} {L : List (List Int × List ByteArray)} (h : RdsAt w B v vs L) (hb : Below w.heap.size w w') : RdsAt w' B v vs L :=
  ⟨h.len, Gr.own_below h.own hb, fun j h1 h2 => Gr.own_below (h.pool j h1 h2) hb, fun j h1 h2 => Gr.own_below (h.part j h1 h2) hb, h.dist⟩
theorem RdsAt.kept {S : Nat → Prop} {w w' : World} {B : Nat} {v : Value} {vs : List (Value × Value)} {L : List (List Int × List ByteArray)} (h : RdsAt w B v vs L) (hk : Kept S w w') (hS : ∀ k, S k → Gr.Alien w k 143 ∧ Gr.Alien w k 3 ∧ Gr.Alien w k 9) : RdsAt w' B v vs L :=
  ⟨h.len, Gr.Kept.own_alien hk h.own (fun k s => (hS k s).1), fun j h1 h2 => Gr.Kept.own_alien hk (h.pool j h1 h2) (fun k s => (hS k s).2.1), fun j h1 h2 => Gr.Kept.own_alien hk (h.part j h1 h2) (fun k s => (hS k s).2.2), h.dist⟩
def RegAt (w : World) (B g : Nat) (R : Rgs) : Prop := B ≤ g ∧ ∃ v vs, Blk w g (regC R v) 91 ∧ RdsAt w B v vs R.rds
theorem RegAt.below {w w' : World} {B g : Nat} {R : Rgs} (h : RegAt w B g R) (hb : Below w.heap.size w w') : RegAt w' B g R := by
  obtain ⟨h0, v, vs, h1, h2⟩ := h
  exact ⟨h0, v, vs, h1.below hb, h2.below hb⟩
theorem reg_types : (91 : Nat) ≠ 143 ∧ (91 : Nat) ≠ 3 ∧ (91 : Nat) ≠ 9 ∧ (143 : Nat) ≠ 3 ∧ (143 : Nat) ≠ 9 ∧ (9 : Nat) ≠ 3 := by decide
theorem RegAt.lt {w : World} {B g : Nat} {R : Rgs} (h : RegAt w B g R) : B ≤ g ∧ g < w.heap.size := by
  obtain ⟨h0, v, vs, h1, _⟩ := h
  exact ⟨h0, h1.lt⟩
theorem RegAt.mem {w : World} {B g : Nat} {R : Rgs} (h : RegAt w B g R) (a : Nat) (ha : a < 12) : w.cell? ⟨g, a * 2, none⟩ = some (.int .i64 (((R.mem a).1 : Nat) : Int)) ∧ w.cell? ⟨g, a * 2 + 1, none⟩ = some (.int .i64 (((R.mem a).2 : Nat) : Int)) := by
  obtain ⟨_, v, vs, h1, _⟩ := h
  exact ⟨h1.cell _ _ (by rw [regC_at R v _ (by omega), cell_mem0 R v a ha]), h1.cell _ _ (by rw [regC_at R v _ (by omega), cell_mem1 R v a ha])⟩
theorem RegAt.link {w : World} {B g : Nat} {R : Rgs} (h : RegAt w B g R) (a b : Nat) (ha : a < 12) (hb : b < 12) (k : Nat) (hk : k < 4) : w.cell? ⟨g, 24 + a * 48 + b * 4 + k, none⟩ = some (linkCell (R.lnk a b) k) := by
  obtain ⟨_, v, vs, h1, _⟩ := h
  exact h1.cell _ _ (by rw [regC_at R v _ (by omega), cell_link R v a b k ha hb hk])
set_option maxRecDepth 100000 in
theorem joined_any (i : Int) (B g : Nat) (R : Rgs) (w : World) (hR : RegAt w B g R) :
    Calls Tryz.prog 41 #[.pointer (some ⟨g, 0, none⟩), .int .i64 i] w fun e w' => e = .returned (.bool (joined R i)) ∧ w' = w := by
  by_cases h : 0 ≤ i ∧ i < 12
  · obtain ⟨a, rfl⟩ := Int.eq_ofNat_of_zero_le h.1
    have c0 := (hR.mem a (by omega)).1
    have hj : joined R (a : Int) = !(((R.mem a).1 : Int) == 0) := by
      unfold joined
      rw [decide_eq_true h.1, decide_eq_true h.2, Bool.true_and, Bool.true_and, Int.toNat_natCast, Bool.eq_iff_iff]
      simp
    rw [hj]
    generalize (((R.mem a).1 : Nat) : Int) = m at c0
    have IP := hide (fun w1 => Gr.isPlace_is (a : Int) 12 w1)
    rw [decide_eq_true h.1, decide_eq_true h.2] at IP
    have h1 : (a : Int) < 12 := h.2
    clear hR hj h
    go_enter Tryz.func41, Tryz.ntmps41
    go_wp2_with fail
    refine (unhide IP _).mono ?_
    rintro e w1 ⟨rfl, rfl⟩
    go_wp2
    go_ret
    exact ⟨rfl, rfl⟩
  · have hj : joined R i = false := by
      unfold joined
      by_cases h0 : 0 ≤ i
      · rw [decide_eq_false (show ¬ i < 12 by omega), Bool.false_and, Bool.and_false]
      · rw [decide_eq_false h0, Bool.false_and]
    have IP := hide (fun w1 => Gr.isPlace_is i 12 w1)
    have hf : (decide (0 ≤ i) && decide (i < 12)) = false := by
      by_cases h0 : 0 ≤ i
      · rw [decide_eq_false (show ¬ i < 12 by omega), Bool.and_false]
      · rw [decide_eq_false h0, Bool.false_and]
    rw [hf] at IP
    rw [hj]
    clear hR hj hf h
    go_enter Tryz.func41, Tryz.ntmps41
    go_wp2_with fail
    refine (unhide IP _).mono ?_
    rintro e w1 ⟨rfl, rfl⟩
    go_wp2
    go_ret
    exact ⟨rfl, rfl⟩
set_option maxRecDepth 100000 in
set_option maxHeartbeats 2000000 in
theorem links_any (B g : Nat) (R : Rgs) (w : World) (hR : RegAt w B g R) :
    Calls Tryz.prog 75 #[.pointer (some ⟨g, 0, none⟩)] w fun e w' => e = .returned (.bool (linksOk R)) ∧ Below w.heap.size w w' := by
  have HR := hide hR
  have HY : Hid ((∀ a, a < 12 → ∀ b, b < 12 → lkOk R a b = true) → linksOk R = true) := (linksOk_iff R).2
  have HN : Hid (∀ a b, a < 12 → b < 12 → lkOk R a b = false → linksOk R = false) := fun a b ha hb h => by
    cases hl : linksOk R with
    | false => rfl
    | true => have := (linksOk_iff R).1 hl a ha b hb; rw [h] at this; cases this
  generalize linksOk R = X at HY HN
  have JO := hide (fun (i : Int) w1 (hb : Below w.heap.size w w1) => joined_any i B g R w1 (hR.below hb))
  have AW := hide (fun a b c w1 => Gr.areWorths_any a b c w1)
  clear hR
  go_enter Tryz.func75, Tryz.ntmps75
  go_wp2_with fail
  go_loopw [6] (fun i wr => ∃ a : Nat, i = .int .i64 (a : Int) ∧ a ≤ 12 ∧ Hid (∀ x, x < a → ∀ y, y < 12 → lkOk R x y = true) ∧ Below w.heap.size w wr) (fun i _ => 12 - (intOf i).toNat)
  case atStart => exact ⟨0, rfl, Nat.zero_le _, fun x h => absurd h (Nat.not_lt_zero _), Below.refl _ _⟩
  case round =>
    obtain ⟨a, rfl, ha, HA, hb⟩ := hrel
    by_cases hlt : a < 12
    · have hai : (a : Int) < 12 := by omega
      obtain ⟨wq, h⟩ : ∃ W, W = wr := ⟨_, rfl⟩
      subst h
      go_wp2_with fail
      go_loopw [9] (fun i wr => ∃ b : Nat, i = .int .i64 (b : Int) ∧ b ≤ 12 ∧ Hid (∀ y, y < b → lkOk R a y = true) ∧ Below w.heap.size w wr) (fun i _ => 12 - (intOf i).toNat)
      case atStart => exact ⟨0, rfl, Nat.zero_le _, fun x h => absurd h (Nat.not_lt_zero _), hb⟩
      case round =>
        obtain ⟨b, rfl, hb12, HB, hbw⟩ := hrel
        by_cases hbl : b < 12
        · have hbi : (b : Int) < 12 := by omega
          have hRw := (unhide HR).below hbw
          have c0 := hRw.link a b hlt hbl 0 (by omega)
          have c1 := hRw.link a b hlt hbl 1 (by omega)
          have c2 := hRw.link a b hlt hbl 2 (by omega)
          have c3 := hRw.link a b hlt hbl 3 (by omega)
          rw [Nat.add_zero] at c0
          have hLK : lkOk R a b = match R.lnk a b with | none => true | some (x, y, z) => joined R a && (joined R b && (decide (x ≤ 50) && (decide (y ≤ 50) && decide (z ≤ 50)))) := rfl
          have J1 := hide (fun w1 hb => unhide JO (a : Int) w1 hb)
          have J2 := hide (fun w1 hb => unhide JO (b : Int) w1 hb)
          clear hRw
          generalize joined R (a : Int) = ja at hLK J1
          generalize joined R (b : Int) = jb at hLK J2
          cases ho : R.lnk a b with
          | none =>
            rw [ho] at c0 c1 c2 c3 hLK
            simp only [linkCell, if_true, if_neg (show ¬ (1 : Nat) = 0 by omega), if_neg (show ¬ (2 : Nat) = 0 by omega), if_neg (show ¬ (3 : Nat) = 0 by omega)] at c0 c1 c2 c3
            have HB2 : Hid (∀ y, y < b + 1 → lkOk R a y = true) := fun y hy => by
              rcases Nat.lt_succ_iff_lt_or_eq.1 hy with h | rfl
              · exact unhide HB y h
              · exact hLK
            clear ho hLK
            go_wp2_with fail
            exact ⟨⟨b + 1, by go_num, by omega, unhide HB2, hbw.alloc hbw.size _⟩, by simp [intOf]; omega⟩
          | some t =>
            obtain ⟨x, y, z⟩ := t
            rw [ho] at c0 c1 c2 c3 hLK
            simp only [linkCell, if_true, if_neg (show ¬ (1 : Nat) = 0 by omega), if_neg (show ¬ (2 : Nat) = 0 by omega), if_neg (show ¬ (3 : Nat) = 0 by omega), if_neg (show ¬ (2 : Nat) = 1 by omega), if_neg (show ¬ (3 : Nat) = 1 by omega), if_neg (show ¬ (3 : Nat) = 2 by omega)] at c0 c1 c2 c3
            have hw3 : Hid ((decide (x ≤ 50) && (decide (y ≤ 50) && decide (z ≤ 50))) = (Gr.worthOk (x : Int) && (Gr.worthOk (y : Int) && Gr.worthOk (z : Int)))) := by
              show _ = _
              rw [Gr.worthOk_iff, Gr.worthOk_iff, Gr.worthOk_iff, Bool.eq_iff_iff]
              simp only [Bool.and_eq_true, decide_eq_true_eq]
              omega
            have A1 := hide (fun w1 => unhide AW (x : Int) (y : Int) (z : Int) w1)
            have hLK2 : Hid (lkOk R a b = (ja && (jb && (Gr.worthOk (x : Int) && (Gr.worthOk (y : Int) && Gr.worthOk (z : Int)))))) := by show _ = _; rw [← unhide hw3]; exact hLK
            clear hw3 ho hLK
            generalize (Gr.worthOk (x : Int) && (Gr.worthOk (y : Int) && Gr.worthOk (z : Int))) = wk at hLK2 A1
            have HNO : Hid ((ja && (jb && wk)) = false → X = false) := fun h => unhide HN a b hlt hbl ((unhide hLK2).trans h)
            have HB2 : Hid ((ja && (jb && wk)) = true → ∀ y, y < b + 1 → lkOk R a y = true) := fun h y hy => by
              rcases Nat.lt_succ_iff_lt_or_eq.1 hy with h2 | rfl
              · exact unhide HB y h2
              · exact (unhide hLK2).trans h
            clear hLK2
            go_wp2_with fail
            obtain ⟨V, hV⟩ : ∃ W, W = wr.alloc (Obj.cells #[.bool true, .int .i64 (x : Int), .int .i64 (y : Int), .int .i64 (z : Int)] 86) := ⟨_, rfl⟩
            rw [← hV]
            have bV : Below w.heap.size w V := by rw [hV]; exact hbw.alloc hbw.size _
            have mV : Blk V wr.heap.size #[.bool true, .int .i64 (x : Int), .int .i64 (y : Int), .int .i64 (z : Int)] 86 := by rw [hV]; exact Gr.Blk.new0
            have d0 : V.cell? ⟨wr.heap.size, 0, none⟩ = some (.bool true) := mV.cell 0 _ rfl
            have d1 : V.cell? ⟨wr.heap.size, 1, none⟩ = some (.int .i64 (x : Int)) := mV.cell 1 _ rfl
            have d2 : V.cell? ⟨wr.heap.size, 2, none⟩ = some (.int .i64 (y : Int)) := mV.cell 2 _ rfl
            have d3 : V.cell? ⟨wr.heap.size, 3, none⟩ = some (.int .i64 (z : Int)) := mV.cell 3 _ rfl
            clear hV mV c0 c1 c2 c3
            refine (unhide J1 V bV).mono ?_
            rintro e w1 ⟨rfl, rfl⟩
            cases ja with
            | false =>
              obtain rfl : X = false := unhide HNO rfl
              go_wp2
              go_ret
              exact ⟨rfl, bV⟩
            | true =>
              rw [Bool.true_and] at HNO HB2
              go_wp2_with fail
              refine (unhide J2 w1 bV).mono ?_
              rintro e w2 ⟨rfl, rfl⟩
              cases jb with
              | false =>
                obtain rfl : X = false := unhide HNO rfl
                go_wp2
                go_ret
                exact ⟨rfl, bV⟩
              | true =>
                rw [Bool.true_and] at HNO HB2
                go_wp2_with fail
                refine (unhide A1 w2).mono ?_
                rintro e w3 ⟨rfl, b3⟩
                have b4 := bV.trans (b3.mono bV.size)
                cases wk with
                | false =>
                  obtain rfl : X = false := unhide HNO rfl
                  go_wp2
                  go_ret
                  exact ⟨rfl, b4⟩
                | true =>
                  have HB3 := hide (unhide HB2 rfl)
                  go_wp2_with fail
                  exact ⟨⟨b + 1, by go_num, by omega, unhide HB3, b4⟩, by simp [intOf]; omega⟩
        · obtain rfl : b = 12 := by omega
          have HA2 : Hid (∀ x, x < a + 1 → ∀ y, y < 12 → lkOk R x y = true) := fun x hx y hy => by
            rcases Nat.lt_succ_iff_lt_or_eq.1 hx with h2 | rfl
            · exact unhide HA x h2 y hy
            · exact unhide HB y hy
          go_wp2_with fail
          exact ⟨⟨a + 1, by go_num, by omega, unhide HA2, hbw⟩, by simp [intOf]; omega⟩
    · obtain rfl : a = 12 := by omega
      obtain rfl : X = true := unhide HY (unhide HA)
      go_wp2
      go_ret
      exact ⟨rfl, hb⟩
theorem mem_is (R : Rgs) (a : Nat) : (!(decide ((R.mem a).1 = 3) && !decide ((R.mem a).2 < R.rds.length))) = (!((((R.mem a).1 : Nat) : Int) == 3) || decide ((((R.mem a).2 : Nat) : Int) < (R.rds.length : Int))) := by
  rw [Bool.eq_iff_iff]
  simp only [Bool.not_eq_true', Bool.and_eq_false_iff, decide_eq_false_iff_not, Bool.not_eq_false', decide_eq_true_eq, Bool.or_eq_true, beq_eq_false_iff_ne]
  omega
set_option maxRecDepth 100000 in
set_option maxHeartbeats 2000000 in
theorem members_any (B g : Nat) (R : Rgs) (w : World) (hR : RegAt w B g R) :
    Calls Tryz.prog 77 #[.pointer (some ⟨g, 0, none⟩)] w fun e w' => e = .returned (.bool (membersOk R)) ∧ Below w.heap.size w w' := by
  have HR := hide hR
  have HY : Hid ((∀ a, a < 12 → (!(decide ((R.mem a).1 = 3) && !decide ((R.mem a).2 < R.rds.length))) = true) → membersOk R = true) := fun h => by unfold membersOk; simp only [List.all_eq_true, List.mem_range]; exact h
  have HN : Hid (∀ a, a < 12 → (!(decide ((R.mem a).1 = 3) && !decide ((R.mem a).2 < R.rds.length))) = false → membersOk R = false) := fun a ha h => by
    cases hl : membersOk R with
    | false => rfl
    | true => unfold membersOk at hl; simp only [List.all_eq_true, List.mem_range] at hl; have := hl a ha; rw [h] at this; cases this
  generalize membersOk R = X at HY HN
  obtain ⟨v, vs, h1, h2⟩ := hR.2
  have HB1 := hide h1
  obtain ⟨ar, cr, hv⟩ : ∃ A c, v = .slice A R.rds.length c := by
    rcases h2.own.2 with ⟨rfl, h0⟩ | ⟨g', cap, cur, rfl, _⟩
    · exact ⟨none, 0, by rw [h0]⟩
    · exact ⟨_, _, rfl⟩
  subst hv
  clear hR h1 h2
  go_enter Tryz.func77, Tryz.ntmps77
  go_wp2_with fail
  go_loopw [5] (fun i wr => ∃ a : Nat, i = .int .i64 (a : Int) ∧ a ≤ 12 ∧ Hid (∀ x, x < a → (!(decide ((R.mem x).1 = 3) && !decide ((R.mem x).2 < R.rds.length))) = true) ∧ Below w.heap.size w wr) (fun i _ => 12 - (intOf i).toNat)
  case atStart => exact ⟨0, rfl, Nat.zero_le _, fun x h => absurd h (Nat.not_lt_zero _), Below.refl _ _⟩
  case round =>
    obtain ⟨a, rfl, ha, HA, hb⟩ := hrel
    by_cases hlt : a < 12
    · have hai : (a : Int) < 12 := by omega
      have hRw := (unhide HR).below hb
      obtain ⟨c0, c1⟩ := hRw.mem a hlt
      have c600 : wr.cell? ⟨g, 600, none⟩ = some (.slice ar R.rds.length cr) := ((unhide HB1).below hb).cell 600 _ (by rw [regC_at _ _ _ (by omega), cell_rds])
      have IP := hide (fun w1 => Gr.isPlace_is (((R.mem a).2 : Nat) : Int) (R.rds.length : Int) w1)
      rw [decide_eq_true (show (0 : Int) ≤ (((R.mem a).2 : Nat) : Int) by omega), Bool.true_and] at IP
      have HNO := hide (unhide HN a hlt)
      have HA2 : Hid ((!(decide ((R.mem a).1 = 3) && !decide ((R.mem a).2 < R.rds.length))) = true → ∀ y, y < a + 1 → (!(decide ((R.mem y).1 = 3) && !decide ((R.mem y).2 < R.rds.length))) = true) := fun h y hy => by
        rcases Nat.lt_succ_iff_lt_or_eq.1 hy with h2 | rfl
        · exact unhide HA y h2
        · exact h
      rw [mem_is] at HNO
      rw [mem_is R a] at HA2
      clear hRw
      generalize (((R.mem a).1 : Nat) : Int) = m1 at c0 HNO HA2
      generalize decide ((((R.mem a).2 : Nat) : Int) < (R.rds.length : Int)) = bl at IP HNO HA2
      generalize (((R.mem a).2 : Nat) : Int) = m2 at c1 IP
      cases h3 : (m1 == 3) with
      | false =>
        rw [h3, Bool.not_false, Bool.true_or] at HA2
        have HA3 := hide (unhide HA2 rfl)
        clear HA2
        go_wp2_with fail
        obtain ⟨V, hV⟩ : ∃ W, W = wr.alloc (Obj.cells #[.int .i64 m1, .int .i64 m2] 81) := ⟨_, rfl⟩
        rw [← hV]
        have bV : Below w.heap.size w V := by rw [hV]; exact hb.alloc hb.size _
        have mV : Blk V wr.heap.size #[.int .i64 m1, .int .i64 m2] 81 := by rw [hV]; exact Gr.Blk.new0
        have d0 : V.cell? ⟨wr.heap.size, 0, none⟩ = some (.int .i64 m1) := mV.cell 0 _ rfl
        have d1 : V.cell? ⟨wr.heap.size, 1, none⟩ = some (.int .i64 m2) := mV.cell 1 _ rfl
        have d6 : V.cell? ⟨g, 600, none⟩ = some (.slice ar R.rds.length cr) := ((unhide HB1).below bV).cell 600 _ (by rw [regC_at _ _ _ (by omega), cell_rds])
        clear hV mV c0 c1 c600
        go_quiet (fail)
        go_wp2_with fail
        exact ⟨⟨a + 1, by go_num, by omega, unhide HA3, below_drewN bV _⟩, by simp [intOf]; omega⟩
      | true =>
        rw [h3, Bool.not_true, Bool.false_or] at HA2 HNO
        cases bl with
        | false =>
          obtain rfl : X = false := unhide HNO rfl
          go_wp2_with fail
          obtain ⟨V, hV⟩ : ∃ W, W = wr.alloc (Obj.cells #[.int .i64 m1, .int .i64 m2] 81) := ⟨_, rfl⟩
          rw [← hV]
          have bV : Below w.heap.size w V := by rw [hV]; exact hb.alloc hb.size _
          have mV : Blk V wr.heap.size #[.int .i64 m1, .int .i64 m2] 81 := by rw [hV]; exact Gr.Blk.new0
          have d0 : V.cell? ⟨wr.heap.size, 0, none⟩ = some (.int .i64 m1) := mV.cell 0 _ rfl
          have d1 : V.cell? ⟨wr.heap.size, 1, none⟩ = some (.int .i64 m2) := mV.cell 1 _ rfl
          have d6 : V.cell? ⟨g, 600, none⟩ = some (.slice ar R.rds.length cr) := ((unhide HB1).below bV).cell 600 _ (by rw [regC_at _ _ _ (by omega), cell_rds])
          clear hV mV c0 c1 c600
          go_quiet ((go_at_call 78; exact Calls.quiet_of_same (unhide IP _)))
          go_wp2
          go_ret
          exact ⟨rfl, below_drewN bV _⟩
        | true =>
          have HA3 := hide (unhide HA2 rfl)
          clear HA2
          go_wp2_with fail
          obtain ⟨V, hV⟩ : ∃ W, W = wr.alloc (Obj.cells #[.int .i64 m1, .int .i64 m2] 81) := ⟨_, rfl⟩
          rw [← hV]
          have bV : Below w.heap.size w V := by rw [hV]; exact hb.alloc hb.size _
          have mV : Blk V wr.heap.size #[.int .i64 m1, .int .i64 m2] 81 := by rw [hV]; exact Gr.Blk.new0
          have d0 : V.cell? ⟨wr.heap.size, 0, none⟩ = some (.int .i64 m1) := mV.cell 0 _ rfl
          have d1 : V.cell? ⟨wr.heap.size, 1, none⟩ = some (.int .i64 m2) := mV.cell 1 _ rfl
          have d6 : V.cell? ⟨g, 600, none⟩ = some (.slice ar R.rds.length cr) := ((unhide HB1).below bV).cell 600 _ (by rw [regC_at _ _ _ (by omega), cell_rds])
          clear hV mV c0 c1 c600
          go_quiet ((go_at_call 78; exact Calls.quiet_of_same (unhide IP _)))
          go_wp2_with fail
          exact ⟨⟨a + 1, by go_num, by omega, unhide HA3, below_drewN bV _⟩, by simp [intOf]; omega⟩
    · obtain rfl : a = 12 := by omega
      obtain rfl : X = true := unhide HY (unhide HA)
      go_wp2
      go_ret
      exact ⟨rfl, hb⟩
end Rg
end Go.Proofs.YtihnaddfpmjpaaaGreatDoor
