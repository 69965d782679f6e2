/-
 GrRC0, GrDual, GrAttain, GrRI0, GrProofM, GrCertM, GrCertK.
-/
import Derived.Test.YtihnaddfpmjpaaaGreatDoorJ22
import Derived.Test.YtihnaddfpmjpaaaGreatDoorJ2
import Derived.Test.YtihnaddfpmjpaaaGreatDoorJ12
import Derived.Test.YtihnaddfpmjpaaaGreatDoorJ19
namespace Go.Proofs.YtihnaddfpmjpaaaGreatDoor
namespace Gr
open Go.RowKit
def rdEdges (t : ByteArray) : Nat → CS → List EdgeI × CS
  | 0, c => ([], c)
  | k + 1, c => if c.b = true then ([], c) else
    let a := rd t c
    let b := rd t a.2
    let d := rd t b.2
    let e := rd t d.2
    let f := rd t e.2
    let r := rdEdges t k f.2
    (⟨a.1, b.1, d.1, e.1, f.1⟩ :: r.1, r.2)
def rdCouples (t : ByteArray) : Nat → CS → List CoupleI × CS
  | 0, c => ([], c)
  | k + 1, c => if c.b = true then ([], c) else
    let a := rd t c
    let b := rd t a.2
    let r := rdCouples t k b.2
    (⟨a.1, b.1⟩ :: r.1, r.2)
def rdGroups (t : ByteArray) : Nat → CS → List GrpI × CS
  | 0, c => ([], c)
  | k + 1, c => if c.b = true then ([], c) else
    let a := rd t c
    let m := rdInts t (min a.1.toNat 100) a.2
    let z := rd t m.2
    let r := rdGroups t k z.2
    (⟨m.1, z.1⟩ :: r.1, r.2)
/-- What is read of a text. -/
structure RC where
  s : Int
  Q : List EdgeI
  M : List CoupleI
  Y : List Int
  G : List GrpI
  c : CS
def rdCert (t : ByteArray) : RC :=
  let s := rd t ⟨0, false⟩
  let n := rd t s.2
  let E := rdEdges t (min n.1.toNat 100) n.2
  let m := rd t E.2
  let M := rdCouples t (min m.1.toNat 100) m.2
  let Y := rdInts t (min s.1.toNat 100) M.2
  let g := rd t Y.2
  let G := rdGroups t (min g.1.toNat 100) g.2
  ⟨s.1, E.1, M.1, Y.1, G.1, G.2⟩
def RC.ok (x : RC) (t : ByteArray) : Bool := !x.c.b && (certR x.s x.Q x.M x.Y x.G && decide (certB x.s x.Q x.M x.Y x.G = t))
def rcOk (t : ByteArray) : Bool := (rdCert t).ok t
def rcV (t : ByteArray) : RC := if rcOk t = true then rdCert t else ⟨0, [], [], [], [], ⟨0, false⟩⟩
def edgeL (e : EdgeI) : List UInt8 := vL e.A ++ (vL e.B ++ (vL e.W1 ++ (vL e.W2 ++ vL e.W3)))
def coupleL (x : CoupleI) : List UInt8 := vL x.A ++ vL x.B
def grpL (q : GrpI) : List UInt8 := vL (q.M.length : Int) ++ (q.M.flatMap vL ++ vL q.Z)
theorem edgesB_list : ∀ (Q : List EdgeI) (S : ByteArray), (edgesB S Q).data.toList = S.data.toList ++ Q.flatMap edgeL
  | [], S => by simp [edgesB]
  | e :: r, S => by
    rw [edgesB, edgesB_list r]
    simp only [app_list, vB_list, List.flatMap_cons, edgeL, List.append_assoc]
theorem couplesB_list : ∀ (Q : List CoupleI) (S : ByteArray), (couplesB S Q).data.toList = S.data.toList ++ Q.flatMap coupleL
  | [], S => by simp [couplesB]
  | e :: r, S => by
    rw [couplesB, couplesB_list r]
    simp only [app_list, vB_list, List.flatMap_cons, coupleL, List.append_assoc]
theorem intsB_list : ∀ (Q : List Int) (S : ByteArray), (intsB S Q).data.toList = S.data.toList ++ Q.flatMap vL
  | [], S => by simp [intsB]
  | e :: r, S => by
    rw [intsB, intsB_list r]
    simp only [app_list, vB_list, List.flatMap_cons, List.append_assoc]
theorem groupsB_list : ∀ (Q : List GrpI) (S : ByteArray), (groupsB S Q).data.toList = S.data.toList ++ Q.flatMap grpL
  | [], S => by simp [groupsB]
  | e :: r, S => by
    rw [groupsB, groupsB_list r]
    simp only [app_list, vB_list, intsB_list, List.flatMap_cons, grpL, List.append_assoc]
theorem certB_list (s : Int) (Q : List EdgeI) (M : List CoupleI) (Y : List Int) (G : List GrpI) :
    (certB s Q M Y G).data.toList = vL s ++ (vL (Q.length : Int) ++ (Q.flatMap edgeL ++ (vL (M.length : Int) ++ (M.flatMap coupleL ++ (Y.flatMap vL ++ (vL (G.length : Int) ++ G.flatMap grpL)))))) := by
  unfold certB
  simp only [groupsB_list, app_list, vB_list, intsB_list, couplesB_list, edgesB_list, List.append_assoc]
theorem edges_back (t : ByteArray) : ∀ (Q : List EdgeI) (p r : List UInt8), (∀ e ∈ Q, small e.A ∧ small e.B ∧ small e.W1 ∧ small e.W2 ∧ small e.W3) → t.data.toList = p ++ (Q.flatMap edgeL ++ r) → rdEdges t Q.length ⟨p.length, false⟩ = (Q, ⟨(p ++ Q.flatMap edgeL).length, false⟩)
  | [], p, r, _, _ => by simp [rdEdges]
  | e :: Q, p, r, h, ht => by
    obtain ⟨⟨a0, a1⟩, ⟨b0, b1⟩, ⟨c0, c1⟩, ⟨d0, d1⟩, ⟨e0, e1⟩⟩ := h e (by simp)
    rw [List.flatMap_cons] at ht
    simp only [edgeL, List.append_assoc] at ht
    have r1 := rd_back t p _ e.A a0 a1 ht
    have r2 := rd_back t (p ++ vL e.A) _ e.B b0 b1 (by rw [ht]; simp only [List.append_assoc] <;> rfl)
    have r3 := rd_back t (p ++ vL e.A ++ vL e.B) _ e.W1 c0 c1 (by rw [ht]; simp only [List.append_assoc] <;> rfl)
    have r4 := rd_back t (p ++ vL e.A ++ vL e.B ++ vL e.W1) _ e.W2 d0 d1 (by rw [ht]; simp only [List.append_assoc] <;> rfl)
    have r5 := rd_back t (p ++ vL e.A ++ vL e.B ++ vL e.W1 ++ vL e.W2) _ e.W3 e0 e1 (by rw [ht]; simp only [List.append_assoc] <;> rfl)
    have r6 := edges_back t Q (p ++ vL e.A ++ vL e.B ++ vL e.W1 ++ vL e.W2 ++ vL e.W3) r (fun x hx => h x (by simp [hx])) (by rw [ht]; simp only [List.append_assoc] <;> rfl)
    rw [List.length_cons, rdEdges, if_neg (by simp)]
    simp only [r1, r2, r3, r4, r5, r6]
    simp only [List.flatMap_cons, edgeL, List.append_assoc]
theorem couples_back (t : ByteArray) : ∀ (Q : List CoupleI) (p r : List UInt8), (∀ e ∈ Q, small e.A ∧ small e.B) → t.data.toList = p ++ (Q.flatMap coupleL ++ r) → rdCouples t Q.length ⟨p.length, false⟩ = (Q, ⟨(p ++ Q.flatMap coupleL).length, false⟩)
  | [], p, r, _, _ => by simp [rdCouples]
  | e :: Q, p, r, h, ht => by
    obtain ⟨⟨a0, a1⟩, ⟨b0, b1⟩⟩ := h e (by simp)
    rw [List.flatMap_cons] at ht
    simp only [coupleL, List.append_assoc] at ht
    have r1 := rd_back t p _ e.A a0 a1 ht
    have r2 := rd_back t (p ++ vL e.A) _ e.B b0 b1 (by rw [ht]; simp only [List.append_assoc] <;> rfl)
    have r6 := couples_back t Q (p ++ vL e.A ++ vL e.B) r (fun x hx => h x (by simp [hx])) (by rw [ht]; simp only [List.append_assoc] <;> rfl)
    rw [List.length_cons, rdCouples, if_neg (by simp)]
    simp only [r1, r2, r6]
    simp only [List.flatMap_cons, coupleL, List.append_assoc]
theorem min_nat (n : Nat) (h : n ≤ 100) : min ((n : Int).toNat) 100 = n := by omega
theorem groups_back (t : ByteArray) : ∀ (Q : List GrpI) (p r : List UInt8), (∀ q ∈ Q, q.M.length ≤ 100 ∧ (∀ x ∈ q.M, small x) ∧ small q.Z) → t.data.toList = p ++ (Q.flatMap grpL ++ r) → rdGroups t Q.length ⟨p.length, false⟩ = (Q, ⟨(p ++ Q.flatMap grpL).length, false⟩)
  | [], p, r, _, _ => by simp [rdGroups]
  | q :: Q, p, r, h, ht => by
    obtain ⟨hl, hm, z0, z1⟩ := h q (by simp)
    rw [List.flatMap_cons] at ht
    simp only [grpL, List.append_assoc] at ht
    have r1 := rd_back t p _ (q.M.length : Int) (by omega) (by omega) ht
    have r2 := ints_back t q.M (p ++ vL (q.M.length : Int)) _ hm (by rw [ht]; simp only [List.append_assoc] <;> rfl)
    have r3 := rd_back t (p ++ vL (q.M.length : Int) ++ q.M.flatMap vL) _ q.Z z0 z1 (by rw [ht]; simp only [List.append_assoc] <;> rfl)
    have r6 := groups_back t Q (p ++ vL (q.M.length : Int) ++ q.M.flatMap vL ++ vL q.Z) r (fun x hx => h x (by simp [hx])) (by rw [ht]; simp only [List.append_assoc] <;> rfl)
    rw [List.length_cons, rdGroups, if_neg (by simp)]
    simp only [r1, min_nat _ hl, r2, r3, r6]
    simp only [List.flatMap_cons, grpL, List.append_assoc]
theorem few_of (hi : Int) : ∀ (L : List Int) (lo : Int), L.Pairwise (· < ·) → (∀ x ∈ L, lo ≤ x ∧ x < hi) → (L.length : Int) ≤ max 0 (hi - lo)
  | [], lo, _, _ => by simp; omega
  | x :: r, lo, h, hb => by
    have h1 := List.pairwise_cons.1 h
    have h2 := hb x (by simp)
    have h3 := few_of hi r (x + 1) h1.2 (fun y hy => ⟨by have := h1.1 y hy; omega, (hb y (by simp [hy])).2⟩)
    rw [List.length_cons]
    omega
theorem edges_few {s : Int} {Q : List EdgeI} (h : graphOk s Q = true) : Q.length ≤ 81 := by
  obtain ⟨h0, h9, hE, hP⟩ := graph_sound h
  have h1 : (Q.map fun e => e.A * 9 + e.B).Pairwise (· < ·) := by
    rw [List.pairwise_map]
    refine List.Pairwise.imp_of_mem ?_ hP
    intro a b ha hb hab
    have a1 := (edgeOk_iff s a).1 (hE a ha)
    have b1 := (edgeOk_iff s b).1 (hE b hb)
    rcases (ahead_iff a b).1 hab with h | ⟨h, h'⟩ <;> omega
  have h2 := few_of 81 _ 0 h1 (fun x hx => by
    obtain ⟨e, he, rfl⟩ := List.mem_map.1 hx
    have a1 := (edgeOk_iff s e).1 (hE e he)
    omega)
  rw [List.length_map] at h2
  omega
theorem cert_sizes {s : Int} {Q : List EdgeI} {M : List CoupleI} {Y : List Int} {G : List GrpI} (h : certR s Q M Y G = true) : (Y.length : Int) = s ∧ Q.length ≤ 81 := by
  unfold certR at h
  simp only [Bool.and_eq_true] at h
  have hp := proof_sound h.1
  exact ⟨hp.2.1, edges_few hp.1⟩
theorem rdCert_back {s : Int} {Q : List EdgeI} {M : List CoupleI} {Y : List Int} {G : List GrpI} (h : certR s Q M Y G = true) :
    rdCert (certB s Q M Y G) = ⟨s, Q, M, Y, G, ⟨(certB s Q M Y G).size, false⟩⟩ := by
  obtain ⟨s0, s9, rE, rM9, rM, rY9, rY, rG8, rG⟩ := cert_ranges h
  obtain ⟨hY, hQ'⟩ := cert_sizes h
  have hQ : Q.length ≤ 100 := by omega
  generalize ht : certB s Q M Y G = t
  have hl := certB_list s Q M Y G
  rw [ht] at hl
  have q1 := rd_back t [] _ s s0 (by omega) hl
  have q2 := rd_back t ([] ++ vL s) _ (Q.length : Int) (by omega) (by omega) (by rw [hl]; simp only [List.nil_append] <;> rfl)
  have q3 := edges_back t Q ([] ++ vL s ++ vL (Q.length : Int)) _ (fun e he => by obtain ⟨a, b, c, d, f⟩ := rE e he; exact ⟨⟨a.1, by omega⟩, ⟨b.1, by omega⟩, ⟨c.1, by omega⟩, ⟨d.1, by omega⟩, ⟨f.1, by omega⟩⟩) (by rw [hl]; simp only [List.append_assoc, List.nil_append] <;> rfl)
  have q4 := rd_back t ([] ++ vL s ++ vL (Q.length : Int) ++ Q.flatMap edgeL) _ (M.length : Int) (by omega) (by omega) (by rw [hl]; simp only [List.append_assoc, List.nil_append] <;> rfl)
  have q5 := couples_back t M ([] ++ vL s ++ vL (Q.length : Int) ++ Q.flatMap edgeL ++ vL (M.length : Int)) _ (fun e he => by obtain ⟨a, b⟩ := rM e he; exact ⟨⟨a.1, by omega⟩, ⟨b.1, by omega⟩⟩) (by rw [hl]; simp only [List.append_assoc, List.nil_append] <;> rfl)
  have q6 := ints_back t Y ([] ++ vL s ++ vL (Q.length : Int) ++ Q.flatMap edgeL ++ vL (M.length : Int) ++ M.flatMap coupleL) _ (fun e he => rY e he) (by rw [hl]; simp only [List.append_assoc, List.nil_append] <;> rfl)
  have q7 := rd_back t ([] ++ vL s ++ vL (Q.length : Int) ++ Q.flatMap edgeL ++ vL (M.length : Int) ++ M.flatMap coupleL ++ Y.flatMap vL) _ (G.length : Int) (by omega) (by omega) (by rw [hl]; simp only [List.append_assoc, List.nil_append] <;> rfl)
  have q8 := groups_back t G ([] ++ vL s ++ vL (Q.length : Int) ++ Q.flatMap edgeL ++ vL (M.length : Int) ++ M.flatMap coupleL ++ Y.flatMap vL ++ vL (G.length : Int)) [] (fun q hq => by obtain ⟨a, b, c, d⟩ := rG q hq; exact ⟨by omega, fun x hx => ⟨(b x hx).1, by have := (b x hx).2; omega⟩, c, d⟩) (by rw [hl]; simp only [List.append_assoc, List.nil_append, List.append_nil])
  have hsz : t.size = ([] ++ vL s ++ vL (Q.length : Int) ++ Q.flatMap edgeL ++ vL (M.length : Int) ++ M.flatMap coupleL ++ Y.flatMap vL ++ vL (G.length : Int) ++ G.flatMap grpL).length := by
    have : t.size = t.data.toList.length := by simp
    rw [this, hl]
    simp only [List.append_assoc, List.nil_append]
  have e1 : min s.toNat 100 = Y.length := by omega
  unfold rdCert
  simp only [List.length_nil] at q1
  simp only [q1, q2, min_nat _ hQ, q3, q4, min_nat _ (show M.length ≤ 100 by omega), q5, e1, q6, q7, min_nat _ (show G.length ≤ 100 by omega), q8, ← hsz]
theorem rc_of {s : Int} {Q : List EdgeI} {M : List CoupleI} {Y : List Int} {G : List GrpI} (h : certR s Q M Y G = true) :
    rcOk (certB s Q M Y G) = true ∧ rcV (certB s Q M Y G) = ⟨s, Q, M, Y, G, ⟨(certB s Q M Y G).size, false⟩⟩ := by
  have e := rdCert_back h
  have h1 : rcOk (certB s Q M Y G) = true := by
    unfold rcOk RC.ok
    rw [e]
    simp [h]
  exact ⟨h1, by unfold rcV; rw [if_pos h1, e]⟩
theorem rc_is {t : ByteArray} (h : rcOk t = true) : certR (rcV t).s (rcV t).Q (rcV t).M (rcV t).Y (rcV t).G = true ∧ certB (rcV t).s (rcV t).Q (rcV t).M (rcV t).Y (rcV t).G = t := by
  have e : rcV t = rdCert t := by unfold rcV; rw [if_pos h]
  rw [e]
  unfold rcOk RC.ok at h
  simp only [Bool.and_eq_true, decide_eq_true_eq] at h
  exact h.2
def vertsM : List CoupleI → List Int
  | [] => []
  | x :: r => x.A :: x.B :: vertsM r
theorem mem_verts (z : Int) : ∀ (M : List CoupleI), z ∈ vertsM M ↔ ∃ x ∈ M, z = x.A ∨ z = x.B
  | [] => by simp [vertsM]
  | x :: r => by
    simp only [vertsM, List.mem_cons, mem_verts z r]
    constructor
    · rintro (h | h | ⟨y, hy, h⟩)
      · exact ⟨x, .inl rfl, .inl h⟩
      · exact ⟨x, .inl rfl, .inr h⟩
      · exact ⟨y, .inr hy, h⟩
    · rintro ⟨y, hy | hy, h⟩
      · subst hy
        rcases h with h | h
        · exact .inl h
        · exact .inr (.inl h)
      · exact .inr (.inr ⟨y, hy, h⟩)
theorem verts_length : ∀ (M : List CoupleI), (vertsM M).length = 2 * M.length
  | [] => rfl
  | x :: r => by simp only [vertsM, List.length_cons, verts_length r]; omega
theorem verts_nodup : ∀ (M : List CoupleI), M.Pairwise (fun x y => x.A < y.A ∧ y.A ≠ x.B ∧ y.B ≠ x.B) → (∀ x ∈ M, x.A < x.B) → (vertsM M).Nodup
  | [], _, _ => List.nodup_nil
  | x :: r, hp, hx => by
    rw [List.pairwise_cons] at hp
    have hxx := hx x List.mem_cons_self
    have ih := verts_nodup r hp.2 (fun y hy => hx y (List.mem_cons_of_mem _ hy))
    simp only [vertsM, List.nodup_cons, List.mem_cons, not_or]
    refine ⟨⟨by omega, fun h => ?_⟩, fun h => ?_, ih⟩
    · obtain ⟨y, hy, he⟩ := (mem_verts _ r).1 h
      have h1 := hp.1 y hy
      have h2 := hx y (List.mem_cons_of_mem _ hy)
      omega
    · obtain ⟨y, hy, he⟩ := (mem_verts _ r).1 h
      have h1 := hp.1 y hy
      omega
theorem nodup_len {α : Type} [BEq α] [LawfulBEq α] : ∀ (L M : List α), L.Nodup → (∀ x ∈ L, x ∈ M) → L.length ≤ M.length
  | [], _, _, _ => Nat.zero_le _
  | x :: r, M, hn, hs => by
    have hxM := hs x List.mem_cons_self
    rw [List.nodup_cons] at hn
    have h := nodup_len r (M.erase x) hn.2 (fun y hy => (List.mem_erase_of_ne (fun (e : y = x) => hn.1 (by rw [← e]; exact hy))).2 (hs y (List.mem_cons_of_mem _ hy)))
    have h2 := List.length_erase_of_mem hxM
    have h3 : 0 < M.length := List.length_pos_of_mem hxM
    rw [List.length_cons]
    omega
theorem pm_few {Q : List EdgeI} {s : Int} {n : Nat} {U : List Int} {M : List CoupleI} (h : Pm Q s n U M) (h9 : s ≤ 9) (hn : (n : Int) ≤ s) : M.length ≤ 4 := by
  have hl := nodup_len (vertsM M) ((List.range 9).map (fun (k : Nat) => (k : Int))) (verts_nodup M h.2 (fun x hx => (h.1 x hx).2.1)) (fun z hz => by
    obtain ⟨x, hx, he⟩ := (mem_verts z M).1 hz
    obtain ⟨g1, g2, g3, _⟩ := h.1 x hx
    have hz0 : 0 ≤ z ∧ z < 9 := by rcases he with rfl | rfl <;> omega
    obtain ⟨k, rfl⟩ := Int.eq_ofNat_of_zero_le hz0.1
    exact List.mem_map.2 ⟨k, List.mem_range.2 (by omega), rfl⟩)
  rw [verts_length] at hl
  simp at hl
  omega
theorem match_few {Q : List EdgeI} {s : Int} {M : List CoupleI} (h : matchOk s Q M = true) : M.length ≤ 4 ∧ SB (sums Q M) 4 := by
  obtain ⟨hg, h9, hm⟩ := match_sound h
  obtain ⟨hx, hp, _⟩ := match_pm hg M none [] hm
  obtain ⟨g0, g9, _⟩ := graph_sound hg
  have hl : M.length ≤ 4 := pm_few (Q := Q) (s := s) (n := s.toNat) (U := []) ⟨fun x hxm => by
    obtain ⟨a1, a2, a3, a4, a5, a6⟩ := hx x hxm
    exact ⟨by omega, a2, a3, a4, a5, a6⟩, hp⟩ g9 (by omega)
  refine ⟨hl, ?_⟩
  have key : ∀ (L : List CoupleI) (t : SumsI) (n : Int), SB t n → (∀ x ∈ L, 0 ≤ atFrom x.A x.B 0 Q) → SB (sumsFrom Q t L) (n + (L.length : Int)) := by
    intro L
    induction L with
    | nil => intro t n ht _; simpa [sumsFrom] using ht
    | cons x r ih =>
      intro t n ht hx
      have h1 := ih _ (n + 1) (ht.add (edgeN_ok hg (hx x List.mem_cons_self))) (fun y hy => hx y (List.mem_cons_of_mem _ hy))
      show SB (sumsFrom Q _ r) _
      rw [List.length_cons]
      exact h1.mono (by omega)
  exact (key M ⟨0, 0, 0⟩ 0 (SB.zero _ (by omega)) (fun x hxm => (hx x hxm).2.2.2.1)).mono (by omega)
def nm (t : ByteArray) (c : CS) : Int × CS := match readA t (c.p : Int) with | none => (0, ⟨t.size, true⟩) | some x => ((x.1 : Int), ⟨x.2, c.b⟩)
def rcnt (t : ByteArray) (m : Int) (c : CS) : Int × CS := if m < (nm t c).1 then (0, ⟨t.size, true⟩) else nm t c
def nums (t : ByteArray) : Nat → CS → List Int × CS
  | 0, c => ([], c)
  | k + 1, c => ((nm t c).1 :: (nums t k (nm t c).2).1, (nums t k (nm t c).2).2)
def edg (t : ByteArray) (c : CS) : EdgeI × CS :=
  let a := nm t c
  let b := nm t a.2
  let d := nm t b.2
  let e := nm t d.2
  let f := nm t e.2
  (⟨a.1, b.1, d.1, e.1, f.1⟩, f.2)
def edgs (t : ByteArray) : Nat → CS → List EdgeI × CS
  | 0, c => ([], c)
  | k + 1, c => ((edg t c).1 :: (edgs t k (edg t c).2).1, (edgs t k (edg t c).2).2)
def cpl (t : ByteArray) (c : CS) : CoupleI × CS :=
  let a := nm t c
  let b := nm t a.2
  (⟨a.1, b.1⟩, b.2)
def cpls (t : ByteArray) : Nat → CS → List CoupleI × CS
  | 0, c => ([], c)
  | k + 1, c => ((cpl t c).1 :: (cpls t k (cpl t c).2).1, (cpls t k (cpl t c).2).2)
def grp (t : ByteArray) (c : CS) : GrpI × CS :=
  let a := rcnt t 9 c
  let m := nums t a.1.toNat a.2
  let z := nm t m.2
  (⟨m.1, z.1⟩, z.2)
def grps (t : ByteArray) : Nat → CS → List GrpI × CS
  | 0, c => ([], c)
  | k + 1, c => ((grp t c).1 :: (grps t k (grp t c).2).1, (grps t k (grp t c).2).2)
def mdl (t : ByteArray) : RC :=
  let s := rcnt t 9 ⟨0, false⟩
  let n := rcnt t 36 s.2
  let E := edgs t n.1.toNat n.2
  let m := rcnt t 4 E.2
  let M := cpls t m.1.toNat m.2
  let Y := nums t s.1.toNat M.2
  let g := rcnt t 8 Y.2
  let G := grps t g.1.toNat g.2
  ⟨s.1, E.1, M.1, Y.1, G.1, G.2⟩
def mdlOk (t : ByteArray) : Bool := !((mdl t).c.b || decide ((mdl t).c.p < t.size)) && certR (mdl t).s (mdl t).Q (mdl t).M (mdl t).Y (mdl t).G
def Beh (t : ByteArray) (c : CS) (l : List UInt8) : Prop := c.p ≤ t.size ∧ (c.b = false → t.data.toList.take c.p = l)
theorem nm_beh {t : ByteArray} {c : CS} {l : List UInt8} (h : Beh t c l) : Beh t (nm t c).2 (l ++ vL (nm t c).1) := by
  unfold nm
  cases hr : readA t (c.p : Int) with
  | none => exact ⟨Nat.le_refl _, fun hb => by simp at hb⟩
  | some x =>
    obtain ⟨x, e⟩ := x
    obtain ⟨h1, h2⟩ := readA_text hr
    refine ⟨h2, fun hb => ?_⟩
    have hb' : c.b = false := hb
    show t.data.toList.take e = l ++ varB 4 (x : Int).toNat
    rw [h1, h.2 hb', Int.toNat_natCast]
theorem nm_range (t : ByteArray) (c : CS) : 0 ≤ (nm t c).1 ∧ (nm t c).1 ≤ 1000000000 := by
  unfold nm
  cases hr : readA t (c.p : Int) with
  | none => exact ⟨Int.le_refl _, by show (0 : Int) ≤ 1000000000; decide⟩
  | some x =>
    obtain ⟨x, e⟩ := x
    have := (readA_bound hr).1
    constructor
    · show (0 : Int) ≤ (x : Int); omega
    · show (x : Int) ≤ 1000000000; omega
theorem rcnt_beh {t : ByteArray} {m : Int} {c : CS} {l : List UInt8} (h : Beh t c l) : Beh t (rcnt t m c).2 (l ++ vL (rcnt t m c).1) := by
  unfold rcnt
  split
  · exact ⟨Nat.le_refl _, fun hb => by simp at hb⟩
  · exact nm_beh h
theorem rcnt_range (t : ByteArray) (m : Int) (c : CS) (hm : 0 ≤ m) : 0 ≤ (rcnt t m c).1 ∧ (rcnt t m c).1 ≤ m := by
  unfold rcnt
  have := nm_range t c
  split
  · exact ⟨Int.le_refl _, hm⟩
  · exact ⟨this.1, by omega⟩
theorem nums_beh {t : ByteArray} : ∀ (k : Nat) {c : CS} {l : List UInt8}, Beh t c l → Beh t (nums t k c).2 (l ++ (nums t k c).1.flatMap vL)
  | 0, c, l, h => by simpa [nums] using h
  | k + 1, c, l, h => by
    have := nums_beh k (nm_beh h)
    simpa [nums, List.append_assoc] using this
theorem nums_length {t : ByteArray} : ∀ (k : Nat) (c : CS), (nums t k c).1.length = k
  | 0, _ => rfl
  | k + 1, c => by simp [nums, nums_length k]
theorem edg_beh {t : ByteArray} {c : CS} {l : List UInt8} (h : Beh t c l) : Beh t (edg t c).2 (l ++ edgeL (edg t c).1) := by
  have := nm_beh (nm_beh (nm_beh (nm_beh (nm_beh h))))
  simpa [edg, edgeL, List.append_assoc] using this
theorem edgs_beh {t : ByteArray} : ∀ (k : Nat) {c : CS} {l : List UInt8}, Beh t c l → Beh t (edgs t k c).2 (l ++ (edgs t k c).1.flatMap edgeL)
  | 0, c, l, h => by simpa [edgs] using h
  | k + 1, c, l, h => by
    have := edgs_beh k (edg_beh h)
    simpa [edgs, List.append_assoc] using this
theorem edgs_length {t : ByteArray} : ∀ (k : Nat) (c : CS), (edgs t k c).1.length = k
  | 0, _ => rfl
  | k + 1, c => by simp [edgs, edgs_length k]
theorem cpl_beh {t : ByteArray} {c : CS} {l : List UInt8} (h : Beh t c l) : Beh t (cpl t c).2 (l ++ coupleL (cpl t c).1) := by
  have := nm_beh (nm_beh h)
  simpa [cpl, coupleL, List.append_assoc] using this
theorem cpls_beh {t : ByteArray} : ∀ (k : Nat) {c : CS} {l : List UInt8}, Beh t c l → Beh t (cpls t k c).2 (l ++ (cpls t k c).1.flatMap coupleL)
  | 0, c, l, h => by simpa [cpls] using h
  | k + 1, c, l, h => by
    have := cpls_beh k (cpl_beh h)
    simpa [cpls, List.append_assoc] using this
theorem cpls_length {t : ByteArray} : ∀ (k : Nat) (c : CS), (cpls t k c).1.length = k
  | 0, _ => rfl
  | k + 1, c => by simp [cpls, cpls_length k]
theorem toNat_back {n : Int} (h : 0 ≤ n) : ((n.toNat : Nat) : Int) = n := by omega
theorem grp_beh {t : ByteArray} {c : CS} {l : List UInt8} (h : Beh t c l) : Beh t (grp t c).2 (l ++ grpL (grp t c).1) := by
  have h1 := nm_beh (nums_beh (rcnt t 9 c).1.toNat (rcnt_beh (m := 9) h))
  have e : ((nums t (rcnt t 9 c).1.toNat (rcnt t 9 c).2).1.length : Int) = (rcnt t 9 c).1 := by
    rw [nums_length, toNat_back (rcnt_range t 9 c (by decide)).1]
  simpa [grp, grpL, List.append_assoc, e] using h1
theorem grps_beh {t : ByteArray} : ∀ (k : Nat) {c : CS} {l : List UInt8}, Beh t c l → Beh t (grps t k c).2 (l ++ (grps t k c).1.flatMap grpL)
  | 0, c, l, h => by simpa [grps] using h
  | k + 1, c, l, h => by
    have := grps_beh k (grp_beh h)
    simpa [grps, List.append_assoc] using this
theorem grps_length {t : ByteArray} : ∀ (k : Nat) (c : CS), (grps t k c).1.length = k
  | 0, _ => rfl
  | k + 1, c => by simp [grps, grps_length k]
theorem mdl_beh (t : ByteArray) : Beh t (mdl t).c (certB (mdl t).s (mdl t).Q (mdl t).M (mdl t).Y (mdl t).G).data.toList := by
  have h0 : Beh t ⟨0, false⟩ [] := ⟨Nat.zero_le _, fun _ => rfl⟩
  unfold mdl
  dsimp only
  have hs := rcnt_beh (m := 9) h0
  generalize rcnt t 9 ⟨0, false⟩ = s at hs ⊢
  have hn := rcnt_beh (m := 36) hs
  have rn := rcnt_range t 36 s.2 (by decide)
  generalize rcnt t 36 s.2 = n at hn rn ⊢
  have hE := edgs_beh n.1.toNat hn
  have lE := edgs_length (t := t) n.1.toNat n.2
  generalize edgs t n.1.toNat n.2 = E at hE lE ⊢
  have hm := rcnt_beh (m := 4) hE
  have rm := rcnt_range t 4 E.2 (by decide)
  generalize rcnt t 4 E.2 = m at hm rm ⊢
  have hM := cpls_beh m.1.toNat hm
  have lM := cpls_length (t := t) m.1.toNat m.2
  generalize cpls t m.1.toNat m.2 = M at hM lM ⊢
  have hY := nums_beh s.1.toNat hM
  generalize nums t s.1.toNat M.2 = Y at hY ⊢
  have hg := rcnt_beh (m := 8) hY
  have rg := rcnt_range t 8 Y.2 (by decide)
  generalize rcnt t 8 Y.2 = g at hg rg ⊢
  have hG := grps_beh g.1.toNat hg
  have lG := grps_length (t := t) g.1.toNat g.2
  generalize grps t g.1.toNat g.2 = G at hG lG ⊢
  rw [certB_list, lE, lM, lG, toNat_back rn.1, toNat_back rm.1, toNat_back rg.1]
  simp only [List.nil_append, List.append_assoc] at hG
  exact hG
theorem mdl_sound {t : ByteArray} (h : mdlOk t = true) : rcOk t = true ∧ rcV t = ⟨(mdl t).s, (mdl t).Q, (mdl t).M, (mdl t).Y, (mdl t).G, ⟨t.size, false⟩⟩ := by
  unfold mdlOk at h
  simp only [Bool.and_eq_true, Bool.not_eq_true', Bool.or_eq_false_iff, decide_eq_false_iff_not] at h
  obtain ⟨⟨hb, hp⟩, hc⟩ := h
  have hB := mdl_beh t
  have e : certB (mdl t).s (mdl t).Q (mdl t).M (mdl t).Y (mdl t).G = t := by
    apply ByteArray.ext
    rw [← Array.toList_inj, ← hB.2 hb, List.take_of_length_le]
    have : t.data.toList.length = t.size := by simp
    omega
  have := rc_of hc
  rw [e] at this
  exact this
theorem rd_bad {t : ByteArray} {c : CS} (h : (rd t c).2.b = false) : c.b = false := by
  cases hb : c.b with
  | false => rfl
  | true =>
    unfold rd at h
    rw [if_pos hb] at h
    simp at h
theorem nm_rd {t : ByteArray} {c : CS} (h : (rd t c).2.b = false) : nm t c = rd t c := by
  have hb := rd_bad h
  unfold nm
  unfold rd at h ⊢
  rw [if_neg (by rw [hb]; simp)] at h ⊢
  cases hr : readA t (c.p : Int) with
  | none => rw [hr] at h; simp at h
  | some x => simp [hb]
theorem rdInts_bad {t : ByteArray} : ∀ (k : Nat) {c : CS}, (rdInts t k c).2.b = false → c.b = false
  | 0, c, h => h
  | k + 1, c, h => by
    cases hb : c.b with
    | false => rfl
    | true => rw [rdInts, if_pos hb] at h; rw [hb] at h; exact h
theorem nums_rd {t : ByteArray} : ∀ (k : Nat) {c : CS}, (rdInts t k c).2.b = false → nums t k c = rdInts t k c
  | 0, c, _ => rfl
  | k + 1, c, h => by
    have hb := rdInts_bad (k + 1) h
    rw [rdInts, if_neg (by rw [hb]; simp)] at h ⊢
    simp only at h ⊢
    have h2 := nums_rd k h
    have h1 := nm_rd (rdInts_bad k h)
    rw [nums, h1, h2]
theorem rdEdges_bad {t : ByteArray} : ∀ (k : Nat) {c : CS}, (rdEdges t k c).2.b = false → c.b = false
  | 0, c, h => h
  | k + 1, c, h => by
    cases hb : c.b with
    | false => rfl
    | true => rw [rdEdges, if_pos hb] at h; rw [hb] at h; exact h
theorem edgs_rd {t : ByteArray} : ∀ (k : Nat) {c : CS}, (rdEdges t k c).2.b = false → edgs t k c = rdEdges t k c
  | 0, c, _ => rfl
  | k + 1, c, h => by
    have hb := rdEdges_bad (k + 1) h
    rw [rdEdges, if_neg (by rw [hb]; simp)] at h ⊢
    simp only at h ⊢
    have h2 := edgs_rd k h
    have b5 := rdEdges_bad k h
    have b4 := rd_bad b5
    have b3 := rd_bad b4
    have b2 := rd_bad b3
    have b1 := rd_bad b2
    have e : edg t c = (⟨(rd t c).1, (rd t (rd t c).2).1, (rd t (rd t (rd t c).2).2).1, (rd t (rd t (rd t (rd t c).2).2).2).1, (rd t (rd t (rd t (rd t (rd t c).2).2).2).2).1⟩, (rd t (rd t (rd t (rd t (rd t c).2).2).2).2).2) := by
      unfold edg
      simp only [nm_rd b1, nm_rd b2, nm_rd b3, nm_rd b4, nm_rd b5]
    rw [edgs, e]
    simp only [h2]
theorem rdCouples_bad {t : ByteArray} : ∀ (k : Nat) {c : CS}, (rdCouples t k c).2.b = false → c.b = false
  | 0, c, h => h
  | k + 1, c, h => by
    cases hb : c.b with
    | false => rfl
    | true => rw [rdCouples, if_pos hb] at h; rw [hb] at h; exact h
theorem cpls_rd {t : ByteArray} : ∀ (k : Nat) {c : CS}, (rdCouples t k c).2.b = false → cpls t k c = rdCouples t k c
  | 0, c, _ => rfl
  | k + 1, c, h => by
    have hb := rdCouples_bad (k + 1) h
    rw [rdCouples, if_neg (by rw [hb]; simp)] at h ⊢
    simp only at h ⊢
    have h2 := cpls_rd k h
    have b2 := rdCouples_bad k h
    have b1 := rd_bad b2
    have e : cpl t c = (⟨(rd t c).1, (rd t (rd t c).2).1⟩, (rd t (rd t c).2).2) := by
      unfold cpl
      simp only [nm_rd b1, nm_rd b2]
    rw [cpls, e]
    simp only [h2]
theorem rdGroups_bad {t : ByteArray} : ∀ (k : Nat) {c : CS}, (rdGroups t k c).2.b = false → c.b = false
  | 0, c, h => h
  | k + 1, c, h => by
    cases hb : c.b with
    | false => rfl
    | true => rw [rdGroups, if_pos hb] at h; rw [hb] at h; exact h
theorem rdInts_length {t : ByteArray} : ∀ (k : Nat) {c : CS}, (rdInts t k c).2.b = false → (rdInts t k c).1.length = k := fun k c h => by rw [← nums_rd k h, nums_length]
theorem rcnt_rd {t : ByteArray} {c : CS} {m : Int} (h : (rd t c).2.b = false) (hm : (rd t c).1 ≤ m) : rcnt t m c = rd t c := by
  unfold rcnt
  rw [nm_rd h, if_neg (by omega)]
theorem grps_rd {t : ByteArray} : ∀ (k : Nat) {c : CS}, (rdGroups t k c).2.b = false → (∀ q ∈ (rdGroups t k c).1, q.M.length ≤ 9) → grps t k c = rdGroups t k c
  | 0, c, _, _ => rfl
  | k + 1, c, h, h9 => by
    have hb := rdGroups_bad (k + 1) h
    rw [rdGroups, if_neg (by rw [hb]; simp)] at h h9 ⊢
    simp only at h h9 ⊢
    have h2 := grps_rd k h (fun q hq => h9 q (List.mem_cons_of_mem _ hq))
    have b3 := rdGroups_bad k h
    have b2 := rd_bad b3
    have b1 := rdInts_bad _ b2
    have hl := h9 _ (List.mem_cons_self)
    simp only at hl
    rw [rdInts_length _ b2] at hl
    have hr := nm_range t c
    rw [nm_rd b1] at hr
    have hc : (rd t c).1 ≤ 9 := by omega
    have e9 : min (rd t c).1.toNat 100 = (rd t c).1.toNat := by omega
    rw [e9] at h h2 b3 b2 ⊢
    have e : grp t c = (⟨(rdInts t (rd t c).1.toNat (rd t c).2).1, (rd t (rdInts t (rd t c).1.toNat (rd t c).2).2).1⟩, (rd t (rdInts t (rd t c).1.toNat (rd t c).2).2).2) := by
      unfold grp
      simp only [rcnt_rd b1 hc, nums_rd _ b2, nm_rd b3]
    rw [grps, e]
    simp only [h2]
def offE (a : Int) : Int := if a = 0 then 0 else if a = 1 then 8 else if a = 2 then 15 else if a = 3 then 21 else if a = 4 then 26 else if a = 5 then 30 else if a = 6 then 33 else 35
theorem offE_lt (a b a' b' : Int) (h0 : 0 ≤ a) (h1 : a < b) (h2 : b ≤ 8) (h0' : 0 ≤ a') (h1' : a' < b') (h2' : b' ≤ 8) (h : a < a' ∨ (a = a' ∧ b < b')) : offE a + b - a < offE a' + b' - a' := by
  unfold offE
  rcases h with h | ⟨h, h3⟩
  · (repeat' split) <;> omega
  · subst h; omega
theorem offE_range (a b : Int) (h0 : 0 ≤ a) (h1 : a < b) (h2 : b ≤ 8) : 1 ≤ offE a + b - a ∧ offE a + b - a < 37 := by
  unfold offE
  (repeat' split) <;> omega
theorem edges_36 {s : Int} {Q : List EdgeI} (h : graphOk s Q = true) : Q.length ≤ 36 := by
  obtain ⟨h0, h9, hE, hP⟩ := graph_sound h
  have h1 : (Q.map fun e => offE e.A + e.B - e.A).Pairwise (· < ·) := by
    rw [List.pairwise_map]
    refine List.Pairwise.imp_of_mem ?_ hP
    intro a b ha hb hab
    have a1 := (edgeOk_iff s a).1 (hE a ha)
    have b1 := (edgeOk_iff s b).1 (hE b hb)
    exact offE_lt _ _ _ _ (by omega) (by omega) (by omega) (by omega) (by omega) (by omega) ((ahead_iff a b).1 hab)
  have h2 := few_of 37 _ 1 h1 (fun x hx => by
    obtain ⟨e, he, rfl⟩ := List.mem_map.1 hx
    have a1 := (edgeOk_iff s e).1 (hE e he)
    exact offE_range _ _ (by omega) (by omega) (by omega))
  rw [List.length_map] at h2
  omega
theorem mdl_back {s : Int} {Q : List EdgeI} {M : List CoupleI} {Y : List Int} {G : List GrpI} (h : certR s Q M Y G = true) :
    mdl (certB s Q M Y G) = ⟨s, Q, M, Y, G, ⟨(certB s Q M Y G).size, false⟩⟩ := by
  have hr := rdCert_back h
  obtain ⟨s0, s9, rE, rM9, rM, rY9, rY, rG8, rG⟩ := cert_ranges h
  have hC := h
  unfold certR at hC
  simp only [Bool.and_eq_true] at hC
  have h36 := edges_36 (proof_sound hC.1).1
  have h4 := (match_few hC.2.1).1
  generalize certB s Q M Y G = t at hr
  unfold rdCert at hr
  simp only [RC.mk.injEq] at hr
  obtain ⟨e1, e2, e3, e4, e5, e6⟩ := hr
  have bG := congrArg (fun x : CS => x.b) e6
  simp only at bG
  have bg := rdGroups_bad _ bG
  have bY := rd_bad bg
  have bM := rdInts_bad _ bY
  have bm := rdCouples_bad _ bM
  have bE := rd_bad bm
  have bn := rdEdges_bad _ bE
  have bs := rd_bad bn
  have q1 := nm_range t ⟨0, false⟩
  rw [nm_rd bs] at q1
  have k1 : rcnt t 9 ⟨0, false⟩ = rd t ⟨0, false⟩ := rcnt_rd bs (by rw [e1]; exact s9)
  generalize rd t ⟨0, false⟩ = S at *
  have q2 := nm_range t S.2
  rw [nm_rd bn] at q2
  have lE := congrArg List.length e2
  rw [← edgs_rd _ bE, edgs_length] at lE
  have m2 : min (rd t S.2).1.toNat 100 = (rd t S.2).1.toNat := by omega
  have k2 : rcnt t 36 S.2 = rd t S.2 := rcnt_rd bn (by omega)
  rw [m2] at e2 e3 e4 e5 e6 bG bg bY bM bm bE
  generalize rd t S.2 = N at *
  have k3 := edgs_rd _ bE
  generalize rdEdges t N.1.toNat N.2 = E at *
  have q3 := nm_range t E.2
  rw [nm_rd bm] at q3
  have lM := congrArg List.length e3
  rw [← cpls_rd _ bM, cpls_length] at lM
  have m3 : min (rd t E.2).1.toNat 100 = (rd t E.2).1.toNat := by omega
  have k4 : rcnt t 4 E.2 = rd t E.2 := rcnt_rd bm (by omega)
  rw [m3] at e3 e4 e5 e6 bG bg bY bM
  generalize rd t E.2 = m at *
  have k5 := cpls_rd _ bM
  generalize rdCouples t m.1.toNat m.2 = M' at *
  have m1 : min S.1.toNat 100 = S.1.toNat := by omega
  rw [m1] at e4 e5 e6 bG bg bY
  have k6 := nums_rd _ bY
  generalize rdInts t S.1.toNat M'.2 = Y' at *
  have q4 := nm_range t Y'.2
  rw [nm_rd bg] at q4
  have k8 := grps_rd _ bG (by rw [e5]; exact fun q hq => (rG q hq).1)
  have lG := congrArg List.length e5
  rw [← k8, grps_length] at lG
  have k7 : rcnt t 8 Y'.2 = rd t Y'.2 := rcnt_rd bg (by omega)
  have m4 : min (rd t Y'.2).1.toNat 100 = (rd t Y'.2).1.toNat := by omega
  rw [m4] at e5 e6 k8
  unfold mdl
  dsimp only
  rw [k1, k2, k3, k4, k5, k6, k7, k8, e1, e2, e3, e4, e5, e6]
theorem mdl_is (t : ByteArray) : mdlOk t = rcOk t ∧ (rcOk t = true → rcV t = ⟨(mdl t).s, (mdl t).Q, (mdl t).M, (mdl t).Y, (mdl t).G, ⟨t.size, false⟩⟩) := by
  cases hr : rcOk t with
  | false =>
    refine ⟨?_, fun h => by cases h⟩
    cases hm : mdlOk t with
    | false => rfl
    | true => rw [(mdl_sound hm).1] at hr; cases hr
  | true =>
    obtain ⟨hc, ht⟩ := rc_is hr
    have hb := mdl_back hc
    rw [ht] at hb
    have hm : mdlOk t = true := by
      unfold mdlOk
      rw [hb]
      simp [hc]
    exact ⟨hm, fun _ => (mdl_sound hm).2⟩
end Gr
end Go.Proofs.YtihnaddfpmjpaaaGreatDoor
namespace Go.Proofs.YtihnaddfpmjpaaaGreatDoor
namespace Gr
open Go.ChangeShapes Go.WideShapes Go.ChangeAt Go.RowKit
theorem DistV.tail {v : Value} {vs : List Value} (h : DistV (v :: vs)) : DistV vs := fun i j hi hj g h1 h2 => by
  have := h (i + 1) (j + 1) (by simpa using hi) (by simpa using hj) g (by simpa using h1) (by simpa using h2)
  omega
theorem GOwn.kept {S : Nat → Prop} {w w' : World} {B : Nat} {v : Value} {ms : List Value} {G : List GrpI} (h : GOwn w B v ms G) (hk : Kept S w w') (hS : ∀ g, S g → Alien w g 164) (hT : ∀ j (hj : j < ms.length) g, ms[j].ownBlock = some g → ¬ S g) : GOwn w' B v ms G :=
  ⟨h.1, hk.own_alien h.2.1 hS, fun j h1 h2 => hk.own (h.2.2 j h1 h2) (hT j h1)⟩
theorem GOwn.blk {w : World} {B : Nat} {v : Value} {ms : List Value} {G : List GrpI} (h : GOwn w B v ms G) : ∀ g, GoBlk v ms g → B ≤ g ∧ g < w.heap.size := by
  rintro g (hg | ⟨j, hj, hg⟩)
  · exact h.2.1.lt g hg
  · exact (h.2.2 j hj (by rw [← h.1]; exact hj)).blk g hg
theorem GOwn.at {w : World} {B : Nat} {v : Value} {ms : List Value} {G : List GrpI} (h : GOwn w B v ms G) : ∃ a c, v = .slice a G.length c ∧ groupsAt w a G.length w.heap.size G := by
  obtain ⟨A, c, rfl⟩ := own_shape h.2.1
  refine ⟨A, c, rfl, rfl, fun j hj => ?_⟩
  have hjm : j < ms.length := by rw [h.1]; exact hj
  obtain ⟨g, cap, hA, _, hgl⟩ := h.2.1.form (by omega)
  simp at hA
  obtain ⟨rfl, rfl⟩ := hA
  obtain ⟨a1, c1, e1, hI⟩ := (h.2.2 j hjm hj).at
  have hgc := gC_at ms (zsOf G) j hjm (by rw [zsOf_length]; exact hj)
  have k0 := h.2.1.cellAt (j * 2) (by omega)
  have k1 := h.2.1.cellAt (j * 2 + 1) (by omega)
  rw [hgc.1, e1] at k0
  rw [hgc.2, zsOf_at G j _ hj] at k1
  exact ⟨g, 0, a1, c1, rfl, hgl, by simpa using k0, by simpa using k1, hI⟩
def POwn (w : World) (B : Nat) (v : Value) (Y : List Int) (G : List GrpI) : Prop := ∃ u1 u2 ms, v = .agg #[u1, u2] ∧ InOwn w B u1 Y ∧ GOwn w B u2 ms G ∧ DistV (u1 :: ms)
theorem POwn.below {w w' : World} {B : Nat} {v : Value} {Y : List Int} {G : List GrpI} (h : POwn w B v Y G) (hb : Below w.heap.size w w') : POwn w' B v Y G := by
  obtain ⟨u1, u2, ms, rfl, h1, h2, h3⟩ := h
  exact ⟨u1, u2, ms, rfl, h1.below hb, h2.below hb, h3⟩
theorem POwn.shape {w : World} {B : Nat} {v : Value} {Y : List Int} {G : List GrpI} (h : POwn w B v Y G) : ∃ a c a' c', v = .agg #[.slice a Y.length c, .slice a' G.length c'] := by
  obtain ⟨u1, u2, ms, rfl, h1, h2, _⟩ := h
  obtain ⟨a, c, rfl⟩ := own_shape h1
  obtain ⟨a', c', rfl⟩ := own_shape h2.2.1
  exact ⟨a, c, a', c', rfl⟩
theorem POwn.at {w : World} {B : Nat} {v : Value} {Y : List Int} {G : List GrpI} (h : POwn w B v Y G) (hin : PrIn Y G) : PrAt w v w.heap.size Y G := by
  obtain ⟨u1, u2, ms, rfl, h1, h2, _⟩ := h
  obtain ⟨a, c, rfl, hI⟩ := h1.at
  obtain ⟨a', c', rfl, hG⟩ := h2.at
  exact ⟨a, _, c, a', _, c', rfl, hI, hG, hin⟩
def CROwn (w : World) (B : Nat) (v : Value) (s : Int) (Q : List EdgeI) (M : List CoupleI) (Y : List Int) (G : List GrpI) : Prop :=
  ∃ v1 v2 v3 v4, v = .agg #[.int .i64 s, v1, v2, v3, v4] ∧ w.ownsRow B 106 5 v1 Q.length (edgesV Q) ∧ CoOwn w B v2 M ∧ POwn w B (.agg #[v3, v4]) Y G
theorem CROwn.below {w w' : World} {B : Nat} {v : Value} {s : Int} {Q : List EdgeI} {M : List CoupleI} {Y : List Int} {G : List GrpI} (h : CROwn w B v s Q M Y G) (hb : Below w.heap.size w w') : CROwn w' B v s Q M Y G := by
  obtain ⟨v1, v2, v3, v4, rfl, h1, h2, h3⟩ := h
  exact ⟨v1, v2, v3, v4, rfl, own_below h1 hb, h2.below hb, h3.below hb⟩
theorem CROwn.at {w : World} {B : Nat} {v : Value} {s : Int} {Q : List EdgeI} {M : List CoupleI} {Y : List Int} {G : List GrpI} (h : CROwn w B v s Q M Y G) (hn : csize Q M Y G ≤ 1048576) : CeAt w v w.heap.size s Q M Y G := by
  obtain ⟨v1, v2, v3, v4, rfl, h1, h2, h3⟩ := h
  obtain ⟨l1, l2, l3⟩ := csize_le hn
  obtain ⟨m1, m2, m3⟩ := psize_le l3
  have hp := h3.at ⟨by omega, by omega, fun q hq => by have := m3 q hq; omega⟩
  obtain ⟨a2, c2, a3, c3, e3⟩ := h3.shape
  simp at e3
  obtain ⟨rfl, rfl⟩ := e3
  obtain ⟨a, c, rfl, hQ⟩ := edgesAt.of_own h1
  obtain ⟨a1, c1, rfl, hM⟩ := h2.at
  exact ⟨a, c, a1, c1, a2, c2, a3, c3, rfl, ⟨a, _, c, rfl, hQ⟩, ⟨a1, c1, rfl, hM⟩, hp, by omega, by omega⟩
theorem rows_kept {S : Nat → Prop} {w w' : World} {B : Nat} {u1 u2 : Value} {ms : List Value} {Y : List Int} {G : List GrpI} (h1 : InOwn w B u1 Y) (h2 : GOwn w B u2 ms G) (hk : Kept S w w') (hS : ∀ g, S g → Alien w g 164 ∧ Alien w g 3) : InOwn w' B u1 Y ∧ GOwn w' B u2 ms G :=
  ⟨hk.own_alien h1 (fun g hg => (hS g hg).2), h2.1, hk.own_alien h2.2.1 (fun g hg => (hS g hg).1), fun j i1 i2 => hk.own_alien (h2.2.2 j i1 i2) (fun g hg => (hS g hg).2)⟩
end Gr
end Go.Proofs.YtihnaddfpmjpaaaGreatDoor
