/-
 CyR0.
-/
import Derived.Test.YtihnaddfpmjpaaaGreatDoorJ47
import Derived.Test.YtihnaddfpmjpaaaGreatDoorJ1
import Derived.Test.YtihnaddfpmjpaaaGreatDoorJ2
import Derived.Test.YtihnaddfpmjpaaaGreatDoorJ46
import Derived.Test.YtihnaddfpmjpaaaGreatDoorJ48
namespace Go.Proofs.YtihnaddfpmjpaaaGreatDoor
namespace Cy
open Go.RowKit
theorem szL (x : ByteArray) : x.data.toList.length = x.size := by rw [Array.length_toList]; rfl
def rdSh (s : ByteArray) (a : Nat) : Option (ByteArray × Nat) :=
  match readA s (a : Int) with
  | none => none
  | some p => if p.1 ≤ 8000 ∧ p.1 + p.2 ≤ s.size then some (s.extract p.2 (p.2 + p.1), p.2 + p.1) else none
theorem rsOut_is (s : ByteArray) (a : Nat) : rsOut s (readA s (a : Int)) = match rdSh s a with | none => .tuple #[.string ⟨#[]⟩, .int .i64 0, .bool false] | some p => .tuple #[.string p.1, .int .i64 (p.2 : Int), .bool true] := by
  unfold rdSh
  cases h : readA s (a : Int) with
  | none => rfl
  | some p =>
    unfold rsOut
    by_cases hc : p.1 ≤ 8000 ∧ p.1 + p.2 ≤ s.size
    · simp only [if_pos hc]
      have e : ((p.2 : Int) + (p.1 : Int)) = ((p.2 + p.1 : Nat) : Int) := by omega
      rw [e]
    · simp only [if_neg hc]
def rdP (s : ByteArray) (a : Nat) : Option ((ByteArray × ByteArray) × Nat) :=
  match rdSh s a with
  | none => none
  | some x => match rdSh s x.2 with
    | none => none
    | some y => some ((x.1, y.1), y.2)
def allF (s : ByteArray) : Nat → Nat → Rg.PL × Nat
  | 0, a => ([], a)
  | f + 1, a => match rdP s a with
    | none => ([], a)
    | some q => (q.1 :: (allF s f q.2).1, (allF s f q.2).2)
def preF (s : ByteArray) : Nat → Nat → Option (Rg.PL × Nat)
  | 0, a => some ([], a)
  | k + 1, a => match preF s k a with
    | none => none
    | some L => match rdP s L.2 with
      | none => none
      | some q => some (L.1 ++ [q.1], q.2)
def parse (s : ByteArray) : Option Rg.PL :=
  match readA s 0 with
  | none => none
  | some p => if (allF s (s.size + 1) p.2).1.length = p.1 ∧ (allF s (s.size + 1) p.2).2 = s.size then some (allF s (s.size + 1) p.2).1 else none
def unQ (t : ByteArray) : Option ByteArray := if (4 ≤ t.size ∧ t.size ≤ 8004) ∧ t.extract (t.size - 4) t.size = fourB (sumB (t.extract 0 (t.size - 4))) then some (t.extract 0 (t.size - 4)) else none
theorem unsealA_is (t : ByteArray) : unsealA t = match unQ t with | none => .tuple #[.string ⟨#[]⟩, .bool false] | some s => .tuple #[.string s, .bool true] := by
  unfold unsealA unQ unsealOut
  by_cases h : 4 ≤ t.size ∧ t.size ≤ 8004
  · by_cases h2 : t.extract (t.size - 4) t.size = fourB (sumB (t.extract 0 (t.size - 4)))
    · rw [if_pos h, if_pos ⟨h, h2⟩, unOut_yes h2]
    · rw [if_pos h, if_neg (fun h3 => h2 h3.2), unOut_no h2]
  · rw [if_neg h, if_neg (fun h3 => h h3.1)]
theorem unQ_sealed {t s : ByteArray} (h : unQ t = some s) : t = sealB s ∧ s.size ≤ 8000 := by
  unfold unQ at h
  split at h
  · rename_i hc
    obtain ⟨⟨h1, h2⟩, h3⟩ := hc
    have e : t.extract 0 (t.size - 4) = s := by simpa using h
    subst e
    refine ⟨?_, ?_⟩
    · unfold sealB
      rw [← h3, cut_join]
    · rw [ByteArray.size_extract]; omega
  · cases h
theorem unQ_back {s : ByteArray} (h : s.size ≤ 8000) : unQ (sealB s) = some s := by
  have h1 := unsealA_back s h
  rw [unsealA_is] at h1
  cases hq : unQ (sealB s) with
  | none => rw [hq] at h1; simp at h1
  | some u =>
    rw [hq] at h1
    have : u = s := by simpa using h1
    rw [this]
def readQ (t : ByteArray) : Option Rg.PL :=
  match unQ t with
  | none => none
  | some s => match parse s with
    | none => none
    | some L => if Rg.stateOk L = true then some L else none
theorem shB_list (x : ByteArray) : (shB x).data.toList = varB 4 x.size ++ x.data.toList := by
  unfold shB Gr.vB
  simp [ByteArray.data_append]
theorem rdSh_text {s : ByteArray} {a : Nat} {p : ByteArray × Nat} (h : rdSh s a = some p) : s.data.toList.take p.2 = s.data.toList.take a ++ (shB p.1).data.toList ∧ p.2 ≤ s.size ∧ p.2 = a + (shB p.1).size ∧ p.1.size ≤ 8000 := by
  unfold rdSh at h
  cases hr : readA s (a : Int) with
  | none => rw [hr] at h; cases h
  | some q =>
    obtain ⟨n, e⟩ := q
    rw [hr] at h
    simp only at h
    split at h
    · rename_i hc
      have hp : p = (s.extract e (e + n), e + n) := by simpa using h.symm
      subst hp
      obtain ⟨h1, h2⟩ := Gr.readA_text hr
      have hsz : (s.extract e (e + n)).size = n := by rw [ByteArray.size_extract]; omega
      have hx : (s.extract e (e + n)).data.toList = (s.data.toList.drop e).take n := by
        simp [ByteArray.data_extract, List.extract_eq_take_drop]
      have key : s.data.toList.take (e + n) = s.data.toList.take a ++ (shB (s.extract e (e + n))).data.toList := by
        rw [shB_list, hsz, hx, ← List.append_assoc, ← h1]
        exact List.take_add
      have hc1 : n ≤ 8000 := hc.1
      have hc2 : n + e ≤ s.size := hc.2
      refine ⟨key, by show e + n ≤ _; omega, ?_, by show (s.extract e (e + n)).size ≤ _; omega⟩
      have ha : a ≤ s.size := by
        unfold readA at hr
        split at hr
        · omega
        · cases hr
      have hl := congrArg List.length key
      have hl2 := szL (shB (s.extract e (e + n)))
      rw [List.length_append, List.length_take, List.length_take, hl2, szL s] at hl
      rw [Nat.min_eq_left (by omega), Nat.min_eq_left ha] at hl
      exact hl
    · cases h
theorem shB_pos (x : ByteArray) : 0 < (shB x).size := by
  unfold shB Gr.vB
  rw [ByteArray.size_append]
  have : 0 < (varB 4 ((x.size : Int)).toNat).length := by
    generalize ((x.size : Int)).toNat = n
    unfold varB
    split <;> simp
  have e : (ByteArray.mk (varB 4 ((x.size : Int)).toNat).toArray).size = (varB 4 ((x.size : Int)).toNat).length := by rw [← szL]
  omega
def flB (L : Rg.PL) : List UInt8 := L.flatMap fun q => (shB q.1).data.toList ++ (shB q.2).data.toList
theorem stA_list : ∀ (L : Rg.PL) (t : ByteArray), (stA t L).data.toList = t.data.toList ++ flB L
  | [], t => by simp [stA, flB]
  | q :: r, t => by
    show (stA (t ++ shB q.1 ++ shB q.2) r).data.toList = _
    rw [stA_list r]
    simp [flB, ByteArray.data_append]
theorem flB_cons (q : ByteArray × ByteArray) (r : Rg.PL) : flB (q :: r) = ((shB q.1).data.toList ++ (shB q.2).data.toList) ++ flB r := by
  unfold flB
  rw [List.flatMap_cons]
theorem flB_app (A B : Rg.PL) : flB (A ++ B) = flB A ++ flB B := by
  unfold flB
  rw [List.flatMap_append]
theorem rdP_text {s : ByteArray} {a : Nat} {q : (ByteArray × ByteArray) × Nat} (h : rdP s a = some q) : s.data.toList.take q.2 = s.data.toList.take a ++ ((shB q.1.1).data.toList ++ (shB q.1.2).data.toList) ∧ q.2 ≤ s.size ∧ a + 2 ≤ q.2 ∧ (q.1.1.size + q.1.2.size + a ≤ q.2) := by
  unfold rdP at h
  cases h1 : rdSh s a with
  | none => rw [h1] at h; cases h
  | some x =>
    rw [h1] at h
    simp only at h
    cases h2 : rdSh s x.2 with
    | none => rw [h2] at h; cases h
    | some y =>
      rw [h2] at h
      have hq : q = ((x.1, y.1), y.2) := by simpa using h.symm
      subst hq
      obtain ⟨a1, a2, a3, a4⟩ := rdSh_text h1
      obtain ⟨b1, b2, b3, b4⟩ := rdSh_text h2
      have c1 := shB_pos x.1
      have c2 := shB_pos y.1
      have d1 : (shB x.1).size = (varB 4 x.1.size).length + x.1.size := by
        have := congrArg List.length (shB_list x.1)
        rw [szL, List.length_append, szL] at this
        exact this
      have d2 : (shB y.1).size = (varB 4 y.1.size).length + y.1.size := by
        have := congrArg List.length (shB_list y.1)
        rw [szL, List.length_append, szL] at this
        exact this
      refine ⟨by show s.data.toList.take y.2 = _; rw [b1, a1, List.append_assoc], b2, by show a + 2 ≤ y.2; omega, by show x.1.size + y.1.size + a ≤ y.2; omega⟩
theorem allF_text (s : ByteArray) : ∀ (f a : Nat), a ≤ s.size → s.data.toList.take (allF s f a).2 = s.data.toList.take a ++ flB (allF s f a).1 ∧ (allF s f a).2 ≤ s.size
  | 0, a, h => ⟨by simp [allF, flB], h⟩
  | f + 1, a, h => by
    unfold allF
    cases hr : rdP s a with
    | none => exact ⟨by simp [flB], h⟩
    | some q =>
      obtain ⟨h1, h2, _⟩ := rdP_text hr
      obtain ⟨h3, h4⟩ := allF_text s f q.2 h2
      refine ⟨?_, h4⟩
      show s.data.toList.take (allF s f q.2).2 = _
      rw [h3, h1]
      simp [flB]
theorem parse_text {s : ByteArray} {L : Rg.PL} (h : parse s = some L) : s = stT L := by
  unfold parse at h
  cases hr : readA s 0 with
  | none => rw [hr] at h; cases h
  | some p =>
    obtain ⟨n, e⟩ := p
    rw [hr] at h
    simp only at h
    split at h
    · rename_i hc
      obtain ⟨h1, h2⟩ := hc
      have hL : (allF s (s.size + 1) e).1 = L := by simpa using h
      obtain ⟨g1, g2⟩ := Gr.readA_text (p := 0) hr
      obtain ⟨k1, _⟩ := allF_text s (s.size + 1) e g2
      rw [h2, hL, g1] at k1
      have hs : s.data.toList.take s.size = s.data.toList := List.take_of_length_le (by rw [szL]; exact Nat.le_refl _)
      rw [hs] at k1
      rw [hL] at h1
      have e2 : (stT L).data.toList = s.data.toList := by
        unfold stT
        rw [stA_list, k1, h1]
        unfold Gr.vB
        simp
      exact data_inj e2.symm
    · cases h
theorem rdSh_back {s x : ByteArray} {p r : List UInt8} (hs : s.data.toList = p ++ ((shB x).data.toList ++ r)) (hx : x.size ≤ 8000) : rdSh s p.length = some (x, p.length + (shB x).size) := by
  have hs2 : s = ⟨(p ++ varB 4 x.size ++ (x.data.toList ++ r)).toArray⟩ := data_inj (by rw [hs, shB_list]; simp)
  have hr := readA_var p (x.data.toList ++ r) x.size (by omega)
  rw [← hs2] at hr
  have hsz : (shB x).size = (varB 4 x.size).length + x.size := by
    have := congrArg List.length (shB_list x)
    rw [szL, List.length_append, szL] at this
    exact this
  have hl : s.size = p.length + (varB 4 x.size).length + x.size + r.length := by
    have := congrArg List.length hs
    rw [shB_list] at this
    simp only [List.length_append] at this
    have e1 := szL s
    have e2 := szL x
    omega
  unfold rdSh
  rw [hr]
  simp only
  rw [if_pos ⟨hx, by omega⟩]
  have e : s.extract (p.length + (varB 4 x.size).length) (p.length + (varB 4 x.size).length + x.size) = x := by
    apply data_inj
    have e1 : (s.extract (p.length + (varB 4 x.size).length) (p.length + (varB 4 x.size).length + x.size)).data.toList = (s.data.toList.drop (p.length + (varB 4 x.size).length)).take x.size := by
      simp [ByteArray.data_extract, List.extract_eq_take_drop]
    rw [e1, hs, shB_list]
    have e2 : p ++ (varB 4 x.size ++ x.data.toList ++ r) = (p ++ varB 4 x.size) ++ (x.data.toList ++ r) := by simp
    rw [e2, show p.length + (varB 4 x.size).length = (p ++ varB 4 x.size).length by simp, List.drop_left]
    have e3 := (szL x).symm
    rw [e3, List.take_left]
  rw [e, hsz, Nat.add_assoc]
theorem rdP_back {s : ByteArray} {q : ByteArray × ByteArray} {p r : List UInt8} (hs : s.data.toList = p ++ (((shB q.1).data.toList ++ (shB q.2).data.toList) ++ r)) (h1 : q.1.size ≤ 8000) (h2 : q.2.size ≤ 8000) : rdP s p.length = some (q, (p ++ ((shB q.1).data.toList ++ (shB q.2).data.toList)).length) := by
  have l1 := szL (shB q.1)
  have l2 := szL (shB q.2)
  have e1 := rdSh_back (s := s) (x := q.1) (p := p) (r := (shB q.2).data.toList ++ r) (by rw [hs]; simp) h1
  have e2 := rdSh_back (s := s) (x := q.2) (p := p ++ (shB q.1).data.toList) (r := r) (by rw [hs]; simp) h2
  rw [List.length_append, l1] at e2
  unfold rdP
  rw [e1]
  simp only
  rw [e2]
  simp only [List.length_append, l1, l2, Nat.add_assoc]
theorem rdP_end (s : ByteArray) : rdP s s.size = none := by
  have h : readA s (s.size : Int) = none := by
    unfold readA
    rw [if_pos ⟨by omega, by omega⟩, Int.toNat_natCast]
    exact readV_end _ _ _ _ _ _ (by omega)
  unfold rdP rdSh
  rw [h]
theorem allF_back : ∀ (L : Rg.PL) (s : ByteArray) (p : List UInt8) (f : Nat), s.data.toList = p ++ flB L → (∀ q ∈ L, q.1.size ≤ 8000 ∧ q.2.size ≤ 8000) → L.length < f → allF s f p.length = (L, s.size)
  | [], s, p, f, hs, _, hf => by
    obtain ⟨f, rfl⟩ : ∃ g, f = g + 1 := ⟨f - 1, by omega⟩
    have e : p.length = s.size := by
      have := congrArg List.length hs
      rw [szL] at this
      simpa [flB] using this.symm
    unfold allF
    rw [e, rdP_end]
  | q :: r, s, p, f, hs, hq, hf => by
    obtain ⟨f, rfl⟩ : ∃ g, f = g + 1 := ⟨f - 1, by omega⟩
    have hs2 : s.data.toList = p ++ (((shB q.1).data.toList ++ (shB q.2).data.toList) ++ flB r) := by rw [hs]; simp [flB]
    have e := rdP_back hs2 (hq q (by simp)).1 (hq q (by simp)).2
    have ih := allF_back r s (p ++ ((shB q.1).data.toList ++ (shB q.2).data.toList)) f (by rw [hs2]; simp) (fun x hx => hq x (by simp [hx])) (by simp at hf; omega)
    unfold allF
    rw [e]
    simp only
    rw [ih]
theorem preF_back {L : Rg.PL} {s : ByteArray} {p : List UInt8} (hs : s.data.toList = p ++ flB L) (hq : ∀ q ∈ L, q.1.size ≤ 8000 ∧ q.2.size ≤ 8000) : ∀ k, k ≤ L.length → preF s k p.length = some (L.take k, (p ++ flB (L.take k)).length)
  | 0, _ => by simp [preF, flB]
  | k + 1, h => by
    have ih := preF_back hs hq k (by omega)
    have hk : k < L.length := by omega
    have e0 : L.take k ++ (L[k] :: L.drop (k + 1)) = L := by rw [List.getElem_cons_drop hk]; simp
    have e1 : flB L = flB (L.take k) ++ (((shB L[k].1).data.toList ++ (shB L[k].2).data.toList) ++ flB (L.drop (k + 1))) := by
      rw [← flB_cons, ← flB_app, e0]
    have hs2 : s.data.toList = (p ++ flB (L.take k)) ++ (((shB L[k].1).data.toList ++ (shB L[k].2).data.toList) ++ flB (L.drop (k + 1))) := by
      rw [hs, e1]
      simp only [List.append_assoc]
    have e := rdP_back hs2 (hq _ (List.getElem_mem hk)).1 (hq _ (List.getElem_mem hk)).2
    have e2 : flB (L.take k ++ [L[k]]) = flB (L.take k) ++ ((shB L[k].1).data.toList ++ (shB L[k].2).data.toList) := by
      rw [flB_app, flB_cons]
      simp [flB]
    unfold preF
    rw [ih]
    simp only
    rw [e, List.take_succ_eq_append_getElem hk, e2, List.append_assoc]
theorem head_back (L : Rg.PL) (h : L.length ≤ 1000000000) : readA (stT L) 0 = some (L.length, (varB 4 L.length).length) := by
  have e : stT L = ⟨([] ++ varB 4 L.length ++ flB L).toArray⟩ := data_inj (by
    unfold stT
    rw [stA_list]
    unfold Gr.vB
    simp)
  have h1 := readA_var [] (flB L) L.length h
  rw [← e] at h1
  simpa using h1
theorem stT_list (L : Rg.PL) : (stT L).data.toList = varB 4 L.length ++ flB L := by
  unfold stT
  rw [stA_list]
  unfold Gr.vB
  simp
theorem fl_len : ∀ (L : Rg.PL), L.length ≤ (flB L).length
  | [] => by simp [flB]
  | q :: r => by
    have h := fl_len r
    have h1 := shB_pos q.1
    have l1 := szL (shB q.1)
    have e : flB (q :: r) = ((shB q.1).data.toList ++ (shB q.2).data.toList) ++ flB r := by simp [flB]
    rw [e, List.length_append, List.length_append, List.length_cons]
    omega
theorem parse_back {L : Rg.PL} (h : L.length ≤ 1000000000) (hq : ∀ q ∈ L, q.1.size ≤ 8000 ∧ q.2.size ≤ 8000) : parse (stT L) = some L := by
  have hsz : (stT L).size = (varB 4 L.length).length + (flB L).length := by
    have := congrArg List.length (stT_list L)
    rw [szL, List.length_append] at this
    exact this
  have h2 := fl_len L
  have e := allF_back L (stT L) (varB 4 L.length) ((stT L).size + 1) (stT_list L) hq (by omega)
  unfold parse
  rw [head_back L h]
  simp only
  rw [e, if_pos ⟨rfl, rfl⟩]
theorem spec_end {t : ByteArray} {ok : Bool} {L : Rg.PL}
    (hyes : ∀ s n e, unQ t = some s → readA s 0 = some (n, e) → ∀ M p, preF s n e = some (M, p) → n ≤ 120 → ok = true ∧ L = M) :
    readQ t = (if ok = true ∧ Rg.stateOk L = true ∧ textR L = t then some L else none) ∨ (ok = false ∧ readQ t = none) := by
  cases hok : ok with
  | false =>
    right
    refine ⟨rfl, ?_⟩
    unfold readQ
    cases hu : unQ t with
    | none => rfl
    | some s =>
      simp only
      cases hp : parse s with
      | none => rfl
      | some M =>
        simp only
        by_cases hst : Rg.stateOk M = true
        · exfalso
          obtain ⟨h1, h2⟩ := state_map hst
          have hs := parse_text hp
          subst hs
          have hpre := preF_back (stT_list M) (fun q hq => by have := h2 q hq; omega) M.length (Nat.le_refl _)
          have := (hyes _ _ _ hu (head_back M (by omega)) _ _ hpre h1).1
          rw [hok] at this
          cases this
        · rw [if_neg hst]
  | true =>
    left
    by_cases hc : Rg.stateOk L = true ∧ textR L = t
    · rw [if_pos ⟨rfl, hc⟩]
      obtain ⟨hst, ht⟩ := hc
      obtain ⟨h1, h2⟩ := state_map hst
      have hz := stT_size hst L.length (Nat.le_refl _)
      rw [List.take_length] at hz
      have e : t = sealB (stT L) := by rw [← ht]; unfold textR; rw [if_pos hst]
      unfold readQ
      rw [e, unQ_back (by show (stA _ L).size ≤ 8000; omega)]
      simp only
      rw [parse_back (by omega) (fun q hq => by have := h2 q hq; omega)]
      simp only
      rw [if_pos hst]
    · rw [if_neg (fun h => hc h.2)]
      unfold readQ
      cases hu : unQ t with
      | none => rfl
      | some s =>
        simp only
        cases hp : parse s with
        | none => rfl
        | some M =>
          simp only
          by_cases hst : Rg.stateOk M = true
          · exfalso
            obtain ⟨h1, h2⟩ := state_map hst
            have hs := parse_text hp
            subst hs
            have hpre := preF_back (stT_list M) (fun q hq => by have := h2 q hq; omega) M.length (Nat.le_refl _)
            have hLM := (hyes _ _ _ hu (head_back M (by omega)) _ _ hpre h1).2
            rw [List.take_length] at hLM
            subst hLM
            refine hc ⟨hst, ?_⟩
            unfold textR
            rw [if_pos hst]
            exact (unQ_sealed hu).1.symm
          · rw [if_neg hst]
end Cy
end Go.Proofs.YtihnaddfpmjpaaaGreatDoor
