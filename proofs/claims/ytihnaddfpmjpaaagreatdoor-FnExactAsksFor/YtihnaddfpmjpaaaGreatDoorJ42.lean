/-
 RgI, Rg5, Rh4, RhL, Rg6.
-/
import Derived.Test.YtihnaddfpmjpaaaGreatDoorJ7
import Derived.Test.YtihnaddfpmjpaaaGreatDoorJ11
import Derived.Test.YtihnaddfpmjpaaaGreatDoorJ40
import Derived.Test.YtihnaddfpmjpaaaGreatDoorJ41
import Derived.Test.YtihnaddfpmjpaaaGreatDoorJ13
import Derived.Deep.RegionLaw
import Derived.Deep.RegionHeld3
namespace Go.Proofs.YtihnaddfpmjpaaaGreatDoor
namespace Rg
open Go.RowKit
theorem own_intI {w1 : World} {B e : Nat} {v' : Value} {L : List Int} {x : Int} (h : w1.ownsRow B e 1 v' (L.length + 1) (Gr.intsV L ++ [.int .i64 x])) : w1.ownsRow B e 1 v' (L ++ [x]).length (Gr.intsV (L ++ [x])) := by
  simpa [Gr.intsV] using h
def idsP (word : List UInt8) : PL → List Int
  | [] => []
  | q :: L => if byteAt q.1 0 = 118 ∧ (word = [] ∨ (q.2.toList == word) = true) then oN (numP (q.1.extract 1 q.1.size)) :: idsP word L else idsP word L
theorem ids_step (word : List UInt8) (Q : PL) (j : Nat) (h : j < Q.length) : idsP word (Q.drop j) = if byteAt Q[j].1 0 = 118 ∧ (word = [] ∨ (Q[j].2.toList == word) = true) then oN (numP (Q[j].1.extract 1 Q[j].1.size)) :: idsP word (Q.drop (j + 1)) else idsP word (Q.drop (j + 1)) := by
  rw [List.drop_eq_getElem_cons h, idsP]
theorem ids_short (word : List UInt8) : ∀ (Q : PL), (idsP word Q).length ≤ Q.length
  | [] => by simp [idsP]
  | q :: L => by
    have := ids_short word L
    rw [idsP]
    split
    · simp; omega
    · simp; omega
set_option maxRecDepth 100000 in
set_option maxHeartbeats 4000000 in
theorem ids_all (a : Option Addr) (len cap B : Nat) (Q : PL) (hlen : len ≤ 1048576) (hk : ∀ q ∈ Q, 1 ≤ q.1.size ∧ q.1.size ≤ 8) (w : World) (hB : B ≤ w.heap.size) (hs : Tr.PairsAt w a len B Q) :
    Calls Tryz.prog 37 #[.slice a len cap, .string ⟨#[]⟩] w fun e w' => (∃ d, e = .returned d ∧ w'.ownsRow w.heap.size 3 1 d (idsP [] Q).length (Gr.intsV (idsP [] Q))) ∧ Below w.heap.size w w' := by
  obtain ⟨i0, hi0, hz0, hz1, hz2⟩ := info_parts Gr.info3
  have HO0 : Hid ((w.alloc (.cells #[] 3)).ownsRow w.heap.size 3 1 (.slice (some ⟨w.heap.size, 0, none⟩) 0 0) 0 (Gr.intsV [])) := World.ownsRow_made w #[] 0 (by omega) (Nat.zero_le _) rfl
  have HC := hide hs.2
  have HPR := hide hk
  have HST := hide (fun j h => ids_step [] Q j h)
  have NU := hide (fun t w1 => num_any t w1)
  obtain ⟨P, hP⟩ : ∃ x, x = idsP [] Q := ⟨_, rfl⟩
  rw [← hP]
  have HP0 : Hid (P = [] ++ idsP [] (Q.drop 0)) := hP
  have hL := hs.1
  clear hP hs hk
  subst hL
  go_enter Tryz.func37, Tryz.ntmps37
  go_wp2_with fail
  go_loopw [5, 6] (fun v i wr => ∃ (j : Nat) (L : List Int), i = .int .i64 (j : Int) ∧ j ≤ Q.length ∧ L.length ≤ j ∧ Hid (P = L ++ idsP [] (Q.drop j)) ∧ Hid (wr.ownsRow w.heap.size 3 1 v L.length (Gr.intsV L)) ∧ Below w.heap.size w wr) (fun _ i _ => Q.length - (intOf i).toNat)
  case atStart => exact ⟨0, [], rfl, Nat.zero_le _, Nat.zero_le _, unhide HP0, unhide HO0, Gr.below_new _ _⟩
  case round =>
    obtain ⟨j, L, rfl, hj, hLj, HY, HO, hb⟩ := hrel
    have hown := unhide HO
    have hbs := hb.size
    by_cases hlt : j < Q.length
    · obtain ⟨b, off, rfl, hbB, d0, d1⟩ := unhide HC j hlt
      have HQ := hide ((unhide HY).trans (by rw [unhide HST j hlt]))
      have hp := unhide HPR Q[j] (List.getElem_mem hlt)
      generalize Q[j] = q at d0 d1 HQ hp
      obtain ⟨x, y⟩ := q
      simp only at d0 d1 HQ hp
      have d2 := (hb.cell (p := ⟨b, off + j * 2, none⟩) (by simp; omega)).trans d0
      have d3 := (hb.cell (p := ⟨b, off + j * 2 + 1, none⟩) (by simp; omega)).trans d1
      have l0 : 0 < x.size := by omega
      have e0 := byteAt_eq l0
      have hxi : (0 : Int) < (x.size : Int) := by omega
      have hx1 : (1 : Int) ≤ (x.size : Int) := by omega
      have hxz : (x.size : Int) ≤ 8 := by omega
      have hjn : (j : Int) < ((Q.length : Nat) : Int) := by omega
      have HNU := hide (fun w1 => unhide NU (x.extract 1 x.size) w1)
      rw [e0] at HQ
      generalize numP (x.extract 1 x.size) = o at HNU HQ
      clear d0 d1 e0 hp
      by_cases h118 : (x[0]'l0).toNat = 118
      · have hbq : (((x[0]'l0).toNat : Int) == 118) = true := by rw [h118]; rfl
        have HQ2 := hide (unhide HQ)
        rw [if_pos ⟨h118, Or.inl (by trivial)⟩] at HQ2
        clear h118 HQ
        have HY2 : Hid (P = (L ++ [oN o]) ++ idsP [] (Q.drop (j + 1))) := by show _ = _; rw [unhide HQ2, List.append_assoc]; rfl
        go_wp2_with fail
        refine (unhide HNU _).mono ?_
        rintro e w3 ⟨rfl, hb3⟩
        have hown3 := Gr.own_below hown hb3
        have b3 := hb.trans (hb3.mono hb.size)
        have hbs3 := b3.size
        clear hown d2 d3
        go_wp2_with (at_builtin; refine wpList_append_own _ rfl _ _ 24 rfl w.heap.size 3 i0 (.int .i64 0) 1 8 Tryz.underlying24 hi0 hz0 hz1 hz2 rfl (by decide) _ _ _ rfl (hown3.alloc _) ⟨w3.heap.size, 0, none⟩ 1 1 [.int .i64 (oN o)] rfl rfl (cell_one_new _ _ _) (by intro u hu; simp at hu; subst hu; rfl) ?c3 ?c4 ?c5 ?_)
        case c3 => unfold maxLen; omega
        case c4 => omega
        case c5 => simp; omega
        intro v' w4 hown' hgrow _
        have hb4 := below_append b3 (Nat.le_refl _) hown3 hgrow
        have HO2 := hide (own_intI hown')
        clear hown3 hown' hgrow
        go_wp2_with fail
        exact ⟨⟨j + 1, _, by go_num, by omega, by rw [List.length_append]; simp; omega, unhide HY2, unhide HO2, hb4⟩, by simp [intOf]; omega⟩
      · have hbq : (((x[0]'l0).toNat : Int) == 118) = false := by rw [beq_eq_false_iff_ne]; omega
        have HQ2 := hide (unhide HQ)
        rw [if_neg (fun h => h118 h.1)] at HQ2
        clear h118 HQ hown
        go_wp2_with fail
        exact ⟨⟨j + 1, L, by go_num, by omega, by omega, unhide HQ2, unhide HO, hb⟩, by simp [intOf]; omega⟩
    · have hPe : P = L := by rw [unhide HY, List.drop_eq_nil_of_le (by omega)]; simp [idsP]
      have HO2 : Hid (wr.ownsRow w.heap.size 3 1 u5 P.length (Gr.intsV P)) := by rw [hPe]; exact hown
      clear hown hPe
      go_wp2
      go_ret
      exact ⟨⟨_, rfl, unhide HO2⟩, hb⟩
theorem asc_num {Q : PL} {n : Nat} (ha : Asc Q) (hf : ∀ p ∈ Q, FormK n p) (word : List UInt8) : (idsP word Q).Pairwise (· < ·) ∧ ∀ x ∈ idsP word Q, ∃ a : Nat, a < 12 ∧ x = (a : Int) ∧ ∃ p ∈ Q, p.1 = k1 118 a ∧ (word = [] ∨ p.2.toList = word) := by
  induction Q with
  | nil => simp [idsP]
  | cons q Q ih =>
    have h2 := List.pairwise_cons.1 ha
    obtain ⟨i1, i2⟩ := ih h2.2 (fun p hp => hf p (by simp [hp]))
    have i2' : ∀ x ∈ idsP word Q, ∃ a : Nat, a < 12 ∧ x = (a : Int) ∧ ∃ p ∈ q :: Q, p.1 = k1 118 a ∧ (word = [] ∨ p.2.toList = word) := fun x hx => by
      obtain ⟨a, h3, h4, p, hp, h5⟩ := i2 x hx
      exact ⟨a, h3, h4, p, by simp [hp], h5⟩
    rw [idsP]
    split
    · rename_i hc
      obtain ⟨hb, hw⟩ := hc
      have hw' : word = [] ∨ q.2.toList = word := by
        rcases hw with h | h
        · exact Or.inl h
        · exact Or.inr (eq_of_beq h)
      have hfq := hf q (by simp)
      have hv : ∃ a, a < 12 ∧ q.1 = k1 118 a := by
        rcases hfq with ⟨a, h1, h3, _⟩ | ⟨a, b, h1, h3, h4, _⟩ | ⟨a, h1, h3, h4⟩ | ⟨a, b, h1, h3, h4, h5⟩
        · exact ⟨a, h1, h3⟩
        · rw [h4, k2_byte _ a b (by omega) (by omega)] at hb; exact absurd hb (by decide)
        · rw [h4, k1_byte _ a h1] at hb; exact absurd hb (by decide)
        · rw [h5, k2_byte _ a b h1 h3] at hb; exact absurd hb (by decide)
      obtain ⟨a, h12, hka⟩ := hv
      have hx : oN (numP (q.1.extract 1 q.1.size)) = (a : Int) := by rw [hka, k1_num _ a (by omega)]; rfl
      rw [hx]
      refine ⟨List.pairwise_cons.2 ⟨fun x hx => ?_, i1⟩, fun x hx => ?_⟩
      · obtain ⟨b, h3, rfl, p, hp, h5, _⟩ := i2 x hx
        have hl := h2.1 p hp
        rw [hka, h5] at hl
        rcases Nat.lt_trichotomy a b with h | h | h
        · omega
        · subst h; rw [less_irrefl] at hl; cases hl
        · have := less_trans _ _ _ hl (k1_less h (by omega))
          rw [less_irrefl] at this; cases this
      · rcases List.mem_cons.1 hx with rfl | hx
        · exact ⟨a, h12, rfl, q, by simp, hka, hw'⟩
        · exact i2' x hx
    · exact ⟨i1, i2'⟩
theorem ids_mem {word : List UInt8} : ∀ (Q : PL) (p : ByteArray × ByteArray) (a : Nat), p ∈ Q → a ≤ 99 → p.1 = k1 118 a → (word = [] ∨ p.2.toList = word) → (a : Int) ∈ idsP word Q
  | [], p, a, h, _, _, _ => by simp at h
  | q :: Q, p, a, h, h99, hk, hw => by
    rw [idsP]
    rcases List.mem_cons.1 h with rfl | h
    · have hx : oN (numP (p.1.extract 1 p.1.size)) = (a : Int) := by rw [hk, k1_num _ a h99]; rfl
      rw [if_pos ⟨by rw [hk, k1_byte _ a h99]; rfl, by rcases hw with h | h <;> simp [h]⟩, hx]
      simp
    · have := ids_mem Q p a h h99 hk hw
      split
      · simp [this]
      · exact this
theorem lt_eq : ∀ (L M : List Int), L.Pairwise (· < ·) → M.Pairwise (· < ·) → (∀ e, e ∈ L ↔ e ∈ M) → L = M
  | [], [], _, _, _ => rfl
  | [], y :: M, _, _, h => absurd ((h y).2 (by simp)) (by simp)
  | x :: L, [], _, _, h => absurd ((h x).1 (by simp)) (by simp)
  | x :: L, y :: M, hL, hM, h => by
    have h1 := List.pairwise_cons.1 hL
    have h2 := List.pairwise_cons.1 hM
    have hxy : x = y := by
      rcases List.mem_cons.1 ((h x).1 (by simp)) with e | e
      · exact e
      · rcases List.mem_cons.1 ((h y).2 (by simp)) with e' | e'
        · exact e'.symm
        · have := h2.1 x e
          have := h1.1 y e'
          omega
    subst hxy
    congr 1
    refine lt_eq L M h1.2 h2.2 (fun e => ?_)
    constructor
    · intro he
      have := h1.1 e he
      rcases List.mem_cons.1 ((h e).1 (by simp [he])) with e' | e'
      · omega
      · exact e'
    · intro he
      have := h2.1 e he
      rcases List.mem_cons.1 ((h e).2 (by simp [he])) with e' | e'
      · omega
      · exact e'
theorem who_asc (f : Nat → Bool) (n : Nat) : (whoTo f n).Pairwise (· < ·) := by
  unfold whoTo
  rw [List.pairwise_map]
  refine List.Pairwise.filter _ ?_
  refine List.Pairwise.imp ?_ (List.pairwise_lt_range (n := n))
  intro a b h
  omega
theorem who_mem (f : Nat → Bool) (n : Nat) (x : Int) : x ∈ whoTo f n ↔ ∃ a : Nat, a < n ∧ f a = true ∧ x = (a : Int) := by
  unfold whoTo
  simp only [List.mem_map, List.mem_filter, List.mem_range]
  constructor
  · rintro ⟨a, ⟨h1, h2⟩, rfl⟩; exact ⟨a, h1, h2, rfl⟩
  · rintro ⟨a, h1, h2, rfl⟩; exact ⟨a, ⟨h1, h2⟩, rfl⟩
theorem ids_is {Q : PL} {R : Rgs} (I : Inv Q R) (ha : Asc Q) : idsP [] Q = whoTo (isIn R) 12 := by
  obtain ⟨h1, h2⟩ := asc_num ha I.f []
  refine lt_eq _ _ h1 (who_asc _ _) (fun x => ?_)
  rw [who_mem]
  constructor
  · intro hx
    obtain ⟨a, h12, rfl, p, hp, hk, _⟩ := h2 x hx
    refine ⟨a, h12, ?_, rfl⟩
    unfold isIn
    rw [joined_iff I a h12, ← hk]
    exact getP_some hp
  · rintro ⟨a, h12, hj, rfl⟩
    unfold isIn at hj
    rw [joined_iff I a h12] at hj
    obtain ⟨v, hv⟩ := Option.isSome_iff_exists.1 hj
    obtain ⟨p, hp, hk, _⟩ := get_pair Q _ v hv
    exact ids_mem Q p a hp (by omega) hk (Or.inl rfl)
def isLf (R : Rgs) (a : Nat) : Bool := decide ((R.mem a).1 = 2)
theorem stand_left {v : ByteArray} {s : Nat × Nat} (h : standV v = some s) : s.1 = 2 ↔ v.toList = [108] := by
  unfold standV at h
  split at h
  · rename_i hv
    simp only [Option.some.injEq] at h
    subst h
    rw [eq_of_beq hv]
    simp
  · split at h
    · rename_i hv
      simp only [Option.some.injEq] at h
      subst h
      simp [eq_of_beq hv]
    · rename_i hv
      have hv' : v.toList ≠ [108] := fun e => hv (by rw [e]; rfl)
      split at h
      · obtain ⟨r, _, e⟩ := Option.map_eq_some_iff.1 h
        rw [← e]
        simp [hv']
      · cases h
theorem left_is {Q : PL} {R : Rgs} (I : Inv Q R) (ha : Asc Q) : idsP [108] Q = whoTo (isLf R) 12 := by
  obtain ⟨h1, h2⟩ := asc_num ha I.f [108]
  refine lt_eq _ _ h1 (who_asc _ _) (fun x => ?_)
  rw [who_mem]
  constructor
  · intro hx
    obtain ⟨a, h12, rfl, p, hp, hk, hw⟩ := h2 x hx
    refine ⟨a, h12, ?_, rfl⟩
    have hv := I.v a h12
    have hg := getP_mem ha hp
    rw [hk] at hg
    rw [hg] at hv
    simp only at hv
    unfold isLf
    refine decide_eq_true ((stand_left hv).2 ?_)
    rcases hw with h | h
    · cases h
    · exact h
  · rintro ⟨a, h12, hj, rfl⟩
    unfold isLf at hj
    simp only [decide_eq_true_eq] at hj
    have hv := I.v a h12
    cases hg : getP Q (k1 118 a) with
    | none => rw [hg] at hv; simp only at hv; rw [hv] at hj; cases hj
    | some v =>
      rw [hg] at hv
      simp only at hv
      obtain ⟨p, hp, hk, h3⟩ := get_pair Q _ v hg
      refine ids_mem Q p a hp (by omega) hk (Or.inr ?_)
      rw [h3]
      exact (stand_left hv).1 hj
end Rg
end Go.Proofs.YtihnaddfpmjpaaaGreatDoor
namespace Go.Proofs.YtihnaddfpmjpaaaGreatDoor
namespace Rg
open Go.RowKit
open Gr (Blk EdgeI GBox GrOwn edgesV Kept)
def ek (x y : Int) : ByteArray := (ByteArray.mk #[101] ++ tw x.toNat) ++ tw y.toNat
def edgeV (a b : Nat) (v : ByteArray) : EdgeI := ⟨(a : Int), (b : Int), (byteAt v 0 : Int), (byteAt v 1 : Int), (byteAt v 2 : Int)⟩
def rowE (Q : PL) (x : Int) (a : Nat) : Nat → List Int → List EdgeI
  | _, [] => []
  | b, y :: r => (match getP Q (ek x y) with | none => [] | some v => [edgeV a b v]) ++ rowE Q x a (b + 1) r
def allE (Q : PL) : Nat → List Int → List EdgeI
  | _, [] => []
  | a, x :: r => rowE Q x a (a + 1) r ++ allE Q (a + 1) r
theorem row_step (Q : PL) (x : Int) (a : Nat) (P : List Int) (j : Nat) (h : j < P.length) : rowE Q x a j (P.drop j) = (match getP Q (ek x P[j]) with | none => [] | some v => [edgeV a j v]) ++ rowE Q x a (j + 1) (P.drop (j + 1)) := by
  rw [List.drop_eq_getElem_cons h, rowE]
theorem all_step (Q : PL) (P : List Int) (i : Nat) (h : i < P.length) : allE Q i (P.drop i) = rowE Q P[i] i (i + 1) (P.drop (i + 1)) ++ allE Q (i + 1) (P.drop (i + 1)) := by
  rw [List.drop_eq_getElem_cons h, allE]
theorem rowE_short (Q : PL) (x : Int) (a : Nat) : ∀ (P : List Int) (b : Nat), (rowE Q x a b P).length ≤ P.length
  | [], b => by simp [rowE]
  | y :: r, b => by
    have := rowE_short Q x a r (b + 1)
    rw [rowE, List.length_append, List.length_cons]
    split <;> simp <;> omega
theorem allE_short (Q : PL) : ∀ (P : List Int) (a : Nat), (allE Q a P).length ≤ P.length * P.length
  | [], a => by simp [allE]
  | x :: r, a => by
    have h1 := allE_short Q r (a + 1)
    have h2 := rowE_short Q x a r (a + 1)
    rw [allE, List.length_append, List.length_cons, Nat.add_mul, Nat.mul_add]
    omega
def GE (w wr : World) (n : Int) (out : List EdgeI) : Prop :=
  Below w.heap.size w wr ∧ GBox wr w.heap.size 0 (.slice none 0 0) ∧ ∃ (A : Option Addr) (C : Nat), GBox wr (w.heap.size + 1) n (.slice A out.length C) ∧ wr.ownsRow (w.heap.size + 2) 106 5 (.slice A out.length C) out.length (edgesV out)
theorem GE.below {w wr W : World} {n : Int} {out : List EdgeI} (h : GE w wr n out) (hb : Below wr.heap.size wr W) : GE w W n out := by
  obtain ⟨h1, h2, A, C, h3, h4⟩ := h
  exact ⟨h1.trans (hb.mono h1.size), h2.below hb, A, C, h3.below hb, Gr.own_below h4 hb⟩
set_option maxRecDepth 100000 in
set_option maxHeartbeats 8000000 in
theorem graph_any (a : Option Addr) (len cap B : Nat) (Q : PL) (ap : Option Addr) (cp : Nat) (P : List Int) (hlen : len ≤ 1048576) (hP : P.length ≤ 1000) (hp : ∀ x ∈ P, 0 ≤ x ∧ x ≤ 99) (hv : ∀ x ∈ P, ∀ y ∈ P, ∀ v, getP Q (ek x y) = some v → v.size = 3) (w : World) (hB : B ≤ w.heap.size) (hs : Tr.PairsAt w a len B Q) (hI : IntsAt w ap P.length B P) :
    Calls Tryz.prog 45 #[.slice a len cap, .slice ap P.length cp] w fun e w' => (∃ d, e = .returned d ∧ GrOwn w' w.heap.size d (P.length : Int) (allE Q 0 P)) ∧ Below w.heap.size w w' := by
  obtain ⟨ie, hie, ez0, ez1, ez2⟩ := info_parts Gr.infoEdge
  have HG := hide (fun k w1 (hb : Below w.heap.size w w1) => get_any a len cap B Q k (by omega) w1 (hs.below hb hB))
  have TW := hide (fun (n : Nat) (h : n ≤ 1000000) w1 => two_any n h w1)
  have TS := hide (fun (n : Nat) (h : n ≤ 1000000) => tw_size n (by omega))
  have HI := hide hI
  have HPB := hide hp
  have HV := hide hv
  have HRS := hide (fun x i j h => row_step Q x i P j h)
  have HAS := hide (fun i h => all_step Q P i h)
  have HEL : Hid ((allE Q 0 P).length ≤ 1000000) := by
    have h1 := allE_short Q P 0
    have h2 : P.length * P.length ≤ 1000 * 1000 := Nat.mul_le_mul hP hP
    show _ ≤ _
    omega
  obtain ⟨E, hE⟩ : ∃ x, x = allE Q 0 P := ⟨_, rfl⟩
  rw [← hE] at HEL ⊢
  have H0 : Hid (E = [] ++ allE Q 0 (P.drop 0)) := hE
  clear hE hs hI hp hv
  go_enter Tryz.func45, Tryz.ntmps45
  go_wp2_with fail
  obtain ⟨V0, hV0⟩ : ∃ W, W = (w.alloc (Obj.cells #[Value.int .i64 0, Value.slice none 0 0] 35)).alloc (Obj.cells #[Value.int .i64 (P.length : Int), Value.slice none 0 0] 35) := ⟨_, rfl⟩
  have G0 : Hid (GE w V0 (P.length : Int) []) := by
    rw [hV0]
    exact ⟨(Gr.below_new _ _).alloc (by simp) _, (GBox.new w 0 _).below (Gr.below_new _ _), none, 0, by have := GBox.new (w.alloc (Obj.cells #[Value.int .i64 0, Value.slice none 0 0] 35)) (P.length : Int) (.slice none 0 0); simpa using this, ⟨rfl, .inl ⟨rfl, rfl⟩⟩⟩
  rw [← hV0]
  clear hV0
  go_loopw [6] (fun i wr => ∃ (i0 : Nat) (out : List EdgeI), i = .int .i64 (i0 : Int) ∧ i0 ≤ P.length ∧ Hid (E = out ++ allE Q i0 (P.drop i0)) ∧ Hid (GE w wr (P.length : Int) out)) (fun i _ => P.length - (intOf i).toNat)
  case atStart => exact ⟨0, [], rfl, Nat.zero_le _, unhide H0, unhide G0⟩
  case round =>
    obtain ⟨i, out, rfl, hi, HY, HGE⟩ := hrel
    by_cases hlt : i < P.length
    · have HY2 := hide ((unhide HY).trans (by rw [unhide HAS i hlt]))
      have hxb := unhide HPB P[i] (List.getElem_mem hlt)
      have HVx : Hid (∀ y, y ∈ P → ∀ v, getP Q (ek (P[i]'hlt) y) = some v → v.size = 3) := fun y hy v h => unhide HV _ (List.getElem_mem hlt) y hy v h
      have HIx : Hid (∀ W, Below w.heap.size w W → ∃ b off, ap = some ⟨b, off, none⟩ ∧ b < w.heap.size ∧ W.cell? ⟨b, off + i, none⟩ = some (.int .i64 P[i])) := fun W hb => by
        obtain ⟨b, off, e, hbB, c⟩ := ((unhide HI).below hb hB).2 i hlt
        exact ⟨b, off, e, by omega, c⟩
      generalize P[i] = x at HY2 hxb HVx HIx
      obtain ⟨xn, rfl⟩ := Int.eq_ofNat_of_zero_le hxb.1
      have hxn : xn ≤ 99 := by omega
      have hin : (i : Int) < ((P.length : Nat) : Int) := by omega
      have hi1 : (i : Int) + 1 ≤ 1000 := by omega
      clear hxb HY
      go_wp2_with fail
      go_loopw [7] (fun jj wr => ∃ (j : Nat) (out : List EdgeI), jj = .int .i64 (j : Int) ∧ i + 1 ≤ j ∧ j ≤ P.length ∧ Hid (E = out ++ (rowE Q (xn : Int) i j (P.drop j) ++ allE Q (i + 1) (P.drop (i + 1)))) ∧ Hid (GE w wr (P.length : Int) out)) (fun jj _ => P.length - (intOf jj).toNat)
      case atStart => exact ⟨i + 1, out, by go_num, Nat.le_refl _, by omega, unhide HY2, unhide HGE⟩
      case round =>
        obtain ⟨j, out, rfl, hij, hj, HZ, HGF⟩ := hrel
        have bw := (unhide HGF).1
        by_cases hltj : j < P.length
        · have HZ2 := hide ((unhide HZ).trans (by rw [unhide HRS (xn : Int) i j hltj]))
          have hyb := unhide HPB P[j] (List.getElem_mem hltj)
          have HVy : Hid (∀ v, getP Q (ek (xn : Int) (P[j]'hltj)) = some v → v.size = 3) := fun v h => unhide HVx _ (List.getElem_mem hltj) v h
          obtain ⟨b, off, rfl, hbw, d0⟩ := unhide HIx wr bw
          obtain ⟨b', off', e', _, d1⟩ := ((unhide HI).below bw hB).2 j hltj
          simp at e'
          obtain ⟨rfl, rfl⟩ := e'
          generalize P[j] = y at HZ2 hyb HVy d1
          obtain ⟨yn, rfl⟩ := Int.eq_ofNat_of_zero_le hyb.1
          have hyn : yn ≤ 99 := by omega
          have hjn : (j : Int) < ((P.length : Nat) : Int) := by omega
          have hbb : b < wr.heap.size := by have := bw.size; omega
          have E0 : ∀ d : Gr.Grown wr.heap.size wr, d.w.cell? ⟨b, off + i, none⟩ = some (.int .i64 (xn : Int)) := fun d => d.cell hbb d0
          have E1 : ∀ d : Gr.Grown wr.heap.size wr, d.w.cell? ⟨b, off + j, none⟩ = some (.int .i64 (yn : Int)) := fun d => d.cell hbb d1
          have T1 := hide (fun w2 => unhide TW xn (by omega) w2)
          have T2 := hide (fun w2 => unhide TW yn (by omega) w2)
          have s1 := unhide TS xn (by omega)
          have s2 := unhide TS yn (by omega)
          have u1 : (ByteArray.mk #[101]).size = 1 := rfl
          have z1 : ¬ 9223372036854775807 < (ByteArray.mk #[101]).size + (tw xn).size := by omega
          have z2 : ¬ 9223372036854775807 < (ByteArray.mk #[101] ++ tw xn).size + (tw yn).size := by rw [ByteArray.size_append]; omega
          have HK : ek (xn : Int) (yn : Int) = (ByteArray.mk #[101] ++ tw xn) ++ tw yn := by unfold ek; rw [Int.toNat_natCast, Int.toNat_natCast]
          rw [HK] at HZ2 HVy
          have GT := hide (fun w1 hb => unhide HG ((ByteArray.mk #[101] ++ tw xn) ++ tw yn) w1 hb)
          generalize getP Q ((ByteArray.mk #[101] ++ tw xn) ++ tw yn) = og at GT HZ2 HVy
          clear HZ hyb d0 d1 HK u1
          cases og with
          | none =>
            have GT1 : Hid (∀ w1, Below w.heap.size w w1 → Calls Tryz.prog 80 #[.slice a len cap, .string ((ByteArray.mk #[101] ++ tw xn) ++ tw yn)] w1 fun e w' => e = .returned (.tuple #[.string ⟨#[]⟩, .bool false]) ∧ w' = w1) := GT
            have HZ3 : Hid (E = out ++ (rowE Q (xn : Int) i (j + 1) (P.drop (j + 1)) ++ allE Q (i + 1) (P.drop (i + 1)))) := unhide HZ2
            clear GT HZ2 HVy
            go_wp2_with fail
            refine Gr.wp_region_grown wr.heap.size (by kernel_rfl) (by kernel_rfl) ?_
            repeat (go_big_quiet_step (first
              | (go_at_call 80; exact Gr.Calls.grown_same (unhide GT1 _ (bw.trans ((Gr.Grown.below _).mono bw.size))))
              | (go_at_call_of 81 (Value.int IntKind.i64 (xn : Int)); exact Gr.Calls.grown (Nat.le_refl _) (unhide T1 _))
              | (go_at_call 81; exact Gr.Calls.grown (Nat.le_refl _) (unhide T2 _))))
            refine wpQuiet_nil ?_
            rintro w5 ⟨d5, rfl⟩
            obtain ⟨W5, hb5⟩ := d5
            dsimp only
            have HGN := hide ((unhide HGF).below hb5)
            clear E0 E1
            go_wp2_with fail
            exact ⟨⟨j + 1, out, by go_num, by omega, by omega, unhide HZ3, unhide HGN⟩, by simp [intOf]; omega⟩
          | some v =>
            have hv3 := unhide HVy v rfl
            have GT1 : Hid (∀ w1, Below w.heap.size w w1 → Calls Tryz.prog 80 #[.slice a len cap, .string ((ByteArray.mk #[101] ++ tw xn) ++ tw yn)] w1 fun e w' => e = .returned (.tuple #[.string v, .bool true]) ∧ w' = w1) := GT
            have v0 : 0 < v.size := by omega
            have v1 : 1 < v.size := by omega
            have v2 : 2 < v.size := by omega
            have i0 : (0 : Int) < (v.size : Int) := by omega
            have i1 : (1 : Int) < (v.size : Int) := by omega
            have i2 : (2 : Int) < (v.size : Int) := by omega
            have q0 : ((v[0]'v0).toNat : Int) ≤ 255 := by have := UInt8.toNat_lt (v[0]'v0); omega
            have q1 : ((v[1]'v1).toNat : Int) ≤ 255 := by have := UInt8.toNat_lt (v[1]'v1); omega
            have q2 : ((v[2]'v2).toNat : Int) ≤ 255 := by have := UInt8.toNat_lt (v[2]'v2); omega
            have HZ3 : Hid (E = (out ++ [⟨(i : Int), (j : Int), ((v[0]'v0).toNat : Int), ((v[1]'v1).toNat : Int), ((v[2]'v2).toNat : Int)⟩]) ++ (rowE Q (xn : Int) i (j + 1) (P.drop (j + 1)) ++ allE Q (i + 1) (P.drop (i + 1)))) := by
              have h := unhide HZ2
              simp only [edgeV, byteAt_eq v0, byteAt_eq v1, byteAt_eq v2] at h
              show _ = _
              rw [h]
              simp
            have hol : out.length ≤ 1000000 := by
              have h := congrArg List.length (unhide HZ3)
              have h2 := unhide HEL
              simp at h
              omega
            clear GT HZ2 HVy hv3
            go_wp2_with fail
            refine Gr.wp_region_grown wr.heap.size (by kernel_rfl) (by kernel_rfl) ?_
            repeat (go_big_quiet_step (first
              | (go_at_call 80; exact Gr.Calls.grown_same (unhide GT1 _ (bw.trans ((Gr.Grown.below _).mono bw.size))))
              | (go_at_call_of 81 (Value.int IntKind.i64 (xn : Int)); exact Gr.Calls.grown (Nat.le_refl _) (unhide T1 _))
              | (go_at_call 81; exact Gr.Calls.grown (Nat.le_refl _) (unhide T2 _))))
            refine wpQuiet_nil ?_
            rintro w5 ⟨d5, rfl⟩
            obtain ⟨W5, hb5⟩ := d5
            dsimp only
            obtain ⟨c1, c2, A, C, c3, c4⟩ := (unhide HGF).below hb5
            have HC1 := hide c1
            have HC2 := hide c2
            have HC3 := hide c3
            have HO4 := hide c4
            obtain ⟨p0, p1⟩ := c3.cells
            have hlt1 := c3.lt
            have hne : (Value.slice A out.length C).ownBlock ≠ some (w.heap.size + 1) := fun e => by have := (c4.lt _ e).1; omega
            have hjm : out.length + 1 ≤ maxLen := by unfold maxLen; omega
            clear E0 E1 c1 c2 c3 c4
            go_wp2_with fail
            have HOD := (unhide HO4).drew
            have ww0 : IntKind.i64.wrap ((v[0]'v0).toNat : Int) = ((v[0]'v0).toNat : Int) := IntWalk.i64_in _ ⟨by omega, by omega⟩
            have ww1 : IntKind.i64.wrap ((v[1]'v1).toNat : Int) = ((v[1]'v1).toNat : Int) := IntWalk.i64_in _ ⟨by omega, by omega⟩
            have ww2 : IntKind.i64.wrap ((v[2]'v2).toNat : Int) = ((v[2]'v2).toNat : Int) := IntWalk.i64_in _ ⟨by omega, by omega⟩
            have hbs5 : w.heap.size + 2 ≤ W5.heap.size := by omega
            have p2 := ((Gr.below_new W5.drew (Obj.cells #[.int .i64 (i : Int), .int .i64 (j : Int), .int .i64 ((v[0]'v0).toNat : Int), .int .i64 ((v[1]'v1).toNat : Int), .int .i64 ((v[2]'v2).toNat : Int)] 106)).cell (p := ⟨w.heap.size + 1, 1, none⟩) hlt1).trans p1
            have p3 := ((Gr.below_new W5 (Obj.cells #[.int .i64 (i : Int), .int .i64 (j : Int), .int .i64 ((v[0]'v0).toNat : Int), .int .i64 ((v[1]'v1).toNat : Int), .int .i64 ((v[2]'v2).toNat : Int)] 106)).cell (p := ⟨w.heap.size + 1, 1, none⟩) hlt1).trans p1
            go_region_law
              (first
                | (refine step_append_lies _ (by rfl) _ _ _ (by rfl) (w.heap.size + 2) 106 ie _ 5 40 Tryz.underlying33 hie ez0 ez1 ez2 rfl (by omega) (.slice A out.length C) out.length (edgesV out) (by rfl) (by first | exact HOD.alloc _ | exact (HOD.alloc _).drew) ⟨W5.heap.size, 0, none⟩ 1 1 [.int .i64 (i : Int), .int .i64 (j : Int), .int .i64 ((v[0]'v0).toNat : Int), .int .i64 ((v[1]'v1).toNat : Int), .int .i64 ((v[2]'v2).toNat : Int)] (by rfl) (by rfl) (World.news_of_block (heap_alloc_new W5.drew _)) (by intro u hu; simp at hu; rcases hu with rfl | rfl | rfl | rfl | rfl <;> rfl) (by omega) hjm (by omega) (by simp; omega) (W5.heap.size + 1) (by simp) ?_; intro g cap w14 hown14 hgrow14 hat14 hlt14; have U14 := ((unhide HC3).below ((Below.refl W5.heap.size W5).drew.alloc (Nat.le_refl _) (Obj.cells #[.int .i64 (i : Int), .int .i64 (j : Int), .int .i64 ((v[0]'v0).toNat : Int), .int .i64 ((v[1]'v1).toNat : Int), .int .i64 ((v[2]'v2).toNat : Int)] 106))).kept (Kept.of_grown hgrow14) (fun e => hne e); have t0 := U14.cells.2; have tf := U14.froz 1))
            all_goals
              have hkg : Kept (fun k => (Value.slice A out.length C).ownBlock = some k) W5 w14 := (Kept.of_below ((Below.refl W5.heap.size W5).drew.alloc (Nat.le_refl _) (Obj.cells #[.int .i64 (i : Int), .int .i64 (j : Int), .int .i64 ((v[0]'v0).toNat : Int), .int .i64 ((v[1]'v1).toNat : Int), .int .i64 ((v[2]'v2).toNat : Int)] 106))).trans (Kept.of_grown hgrow14)
              have hko : Kept (fun k => k = w.heap.size + 1) w14 (w14.setCell ⟨w.heap.size + 1, 1, none⟩ (.slice (some ⟨g, 0, none⟩) (out.length + 1) cap)) := Kept.set _ _ _ _ rfl
              have hsn : edgesV out ++ [.int .i64 (i : Int), .int .i64 (j : Int), .int .i64 ((v[0]'v0).toNat : Int), .int .i64 ((v[1]'v1).toNat : Int), .int .i64 ((v[2]'v2).toNat : Int)] = edgesV (out ++ [⟨(i : Int), (j : Int), ((v[0]'v0).toNat : Int), ((v[1]'v1).toNat : Int), ((v[2]'v2).toNat : Int)⟩]) := (Gr.edgesV_snoc out ⟨(i : Int), (j : Int), ((v[0]'v0).toNat : Int), ((v[1]'v1).toNat : Int), ((v[2]'v2).toNat : Int)⟩).symm
              rw [hsn] at hown14
              have HGN : Hid (GE w (w14.setCell ⟨w.heap.size + 1, 1, none⟩ (.slice (some ⟨g, 0, none⟩) (out.length + 1) cap)) (P.length : Int) (out ++ [⟨(i : Int), (j : Int), ((v[0]'v0).toNat : Int), ((v[1]'v1).toNat : Int), ((v[2]'v2).toNat : Int)⟩])) :=
                ⟨((unhide HC1).trans (hkg.below (unhide HC1).size (fun k hk => by have := ((unhide HO4).lt k hk).1; omega))).trans (hko.below (by have := (unhide HC1).size; have := hkg.2.2.2.1; omega) (fun k hk => by omega)), ((unhide HC2).kept hkg (fun e => by have := ((unhide HO4).lt _ e).1; omega)).kept hko (by omega), some ⟨g, 0, none⟩, cap, by rw [List.length_append]; exact U14.one _, by rw [List.length_append]; exact hko.own hown14 (fun k hk e => by have := (hown14.lt k hk).1; omega)⟩
              clear hown14 hgrow14 hat14 hlt14 U14 hkg hko hsn HOD HO4 HC1 HC2 HC3 p0 p1 p2 p3
              go_wp2_with fail
              exact ⟨⟨j + 1, _, by go_num, by omega, by omega, unhide HZ3, unhide HGN⟩, by simp [intOf]; omega⟩
        · have HZ3 : Hid (E = out ++ allE Q (i + 1) (P.drop (i + 1))) := by
            show _ = _
            rw [unhide HZ, List.drop_eq_nil_of_le (show P.length ≤ j by omega)]
            rfl
          go_wp2_with fail
          exact ⟨⟨i + 1, out, by go_num, by omega, unhide HZ3, unhide HGF⟩, by simp [intOf]; omega⟩
    · have hEo : E = out := by rw [unhide HY, List.drop_eq_nil_of_le (by omega)]; simp [allE]
      obtain ⟨c1, c2, A, C, c3, c4⟩ := unhide HGE
      rw [← hEo] at c3 c4
      have HC1 := hide c1
      have HC4 := hide c4
      have HK2 : Hid (GBox ((wr.setCell ⟨w.heap.size, 0, none⟩ (.int .i64 (P.length : Int))).setCell ⟨w.heap.size, 1, none⟩ (.slice A E.length C)) w.heap.size (P.length : Int) (.slice A E.length C)) := c2.two _ _
      have k2 : Kept (fun k => k = w.heap.size) wr ((wr.setCell ⟨w.heap.size, 0, none⟩ (.int .i64 (P.length : Int))).setCell ⟨w.heap.size, 1, none⟩ (.slice A E.length C)) := (Kept.set (S := fun k => k = w.heap.size) _ _ _ _ rfl).trans (Kept.set (S := fun k => k = w.heap.size) _ _ _ _ rfl)
      have HOW : Hid (GrOwn ((wr.setCell ⟨w.heap.size, 0, none⟩ (.int .i64 (P.length : Int))).setCell ⟨w.heap.size, 1, none⟩ (.slice A E.length C)) w.heap.size (.agg #[.int .i64 (P.length : Int), .slice A E.length C]) (P.length : Int) E) := ⟨_, rfl, Gr.own_lower (by omega) (k2.own c4 (fun k hk e => by have := (c4.lt k hk).1; omega))⟩
      have HBB : Hid (Below w.heap.size w ((wr.setCell ⟨w.heap.size, 0, none⟩ (.int .i64 (P.length : Int))).setCell ⟨w.heap.size, 1, none⟩ (.slice A E.length C))) := c1.trans (k2.below c1.size (fun k hk => by omega))
      obtain ⟨r0, r1⟩ := c2.cells
      have rf := c2.froz
      obtain ⟨s0, s1⟩ := c3.cells
      clear c1 c2 c3 c4 k2 hEo HY HGE
      go_wp2_with fail
      (try simp only [Exit.inBlock, Exit.then])
      refine bodyPost_ret (Gr.results_graph1 Tryz.results45 _ _ w.heap.size _ _ rfl (unhide HK2)) rfl ?_
      exact ⟨⟨_, rfl, unhide HOW⟩, unhide HBB⟩
end Rg
end Go.Proofs.YtihnaddfpmjpaaaGreatDoor
