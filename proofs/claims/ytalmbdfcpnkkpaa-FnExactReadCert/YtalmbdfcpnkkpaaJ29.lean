/-
  Texts of this claim, one behind the other: GrRC0.
-/
import Derived.Test.YtalmbdfcpnkkpaaJ26
import Derived.Test.YtalmbdfcpnkkpaaJ28

/-
  The numbers of a certificate's bytes, read one behind the other; what was written is read back. Without a program.
-/
namespace Go.Proofs.Ytalmbdfcpnkkpaa
namespace Gr
open Go.RowKit

def rdEdges (t : ByteArray) : Nat → CS → List EdgeI × CS
  | 0, c => ([], c)
  | k + 1, c => if c.b = true then ([], c) else
    let a := rd t c
    let b := rd t a.2
    let d := rd t b.2
    let e := rd t d.2
    let f := rd t e.2
    let r := rdEdges t k f.2
    (⟨a.1, b.1, d.1, e.1, f.1⟩ :: r.1, r.2)

def rdCouples (t : ByteArray) : Nat → CS → List CoupleI × CS
  | 0, c => ([], c)
  | k + 1, c => if c.b = true then ([], c) else
    let a := rd t c
    let b := rd t a.2
    let r := rdCouples t k b.2
    (⟨a.1, b.1⟩ :: r.1, r.2)

def rdGroups (t : ByteArray) : Nat → CS → List GrpI × CS
  | 0, c => ([], c)
  | k + 1, c => if c.b = true then ([], c) else
    let a := rd t c
    let m := rdInts t (min a.1.toNat 100) a.2
    let z := rd t m.2
    let r := rdGroups t k z.2
    (⟨m.1, z.1⟩ :: r.1, r.2)

/-- What is read of a text. -/
structure RC where
  s : Int
  Q : List EdgeI
  M : List CoupleI
  Y : List Int
  G : List GrpI
  c : CS

def rdCert (t : ByteArray) : RC :=
  let s := rd t ⟨0, false⟩
  let n := rd t s.2
  let E := rdEdges t (min n.1.toNat 100) n.2
  let m := rd t E.2
  let M := rdCouples t (min m.1.toNat 100) m.2
  let Y := rdInts t (min s.1.toNat 100) M.2
  let g := rd t Y.2
  let G := rdGroups t (min g.1.toNat 100) g.2
  ⟨s.1, E.1, M.1, Y.1, G.1, G.2⟩

def RC.ok (x : RC) (t : ByteArray) : Bool := !x.c.b && (certR x.s x.Q x.M x.Y x.G && decide (certB x.s x.Q x.M x.Y x.G = t))

/-- What ReadCert tells. -/
def rcOk (t : ByteArray) : Bool := (rdCert t).ok t
def rcV (t : ByteArray) : RC := if rcOk t = true then rdCert t else ⟨0, [], [], [], [], ⟨0, false⟩⟩

def edgeL (e : EdgeI) : List UInt8 := vL e.A ++ (vL e.B ++ (vL e.W1 ++ (vL e.W2 ++ vL e.W3)))
def coupleL (x : CoupleI) : List UInt8 := vL x.A ++ vL x.B
def grpL (q : GrpI) : List UInt8 := vL (q.M.length : Int) ++ (q.M.flatMap vL ++ vL q.Z)

theorem edgesB_list : ∀ (Q : List EdgeI) (S : ByteArray), (edgesB S Q).data.toList = S.data.toList ++ Q.flatMap edgeL
  | [], S => by simp [edgesB]
  | e :: r, S => by
    rw [edgesB, edgesB_list r]
    simp only [app_list, vB_list, List.flatMap_cons, edgeL, List.append_assoc]

theorem couplesB_list : ∀ (Q : List CoupleI) (S : ByteArray), (couplesB S Q).data.toList = S.data.toList ++ Q.flatMap coupleL
  | [], S => by simp [couplesB]
  | e :: r, S => by
    rw [couplesB, couplesB_list r]
    simp only [app_list, vB_list, List.flatMap_cons, coupleL, List.append_assoc]

theorem intsB_list : ∀ (Q : List Int) (S : ByteArray), (intsB S Q).data.toList = S.data.toList ++ Q.flatMap vL
  | [], S => by simp [intsB]
  | e :: r, S => by
    rw [intsB, intsB_list r]
    simp only [app_list, vB_list, List.flatMap_cons, List.append_assoc]

theorem groupsB_list : ∀ (Q : List GrpI) (S : ByteArray), (groupsB S Q).data.toList = S.data.toList ++ Q.flatMap grpL
  | [], S => by simp [groupsB]
  | e :: r, S => by
    rw [groupsB, groupsB_list r]
    simp only [app_list, vB_list, intsB_list, List.flatMap_cons, grpL, List.append_assoc]

theorem certB_list (s : Int) (Q : List EdgeI) (M : List CoupleI) (Y : List Int) (G : List GrpI) :
    (certB s Q M Y G).data.toList = vL s ++ (vL (Q.length : Int) ++ (Q.flatMap edgeL ++ (vL (M.length : Int) ++ (M.flatMap coupleL ++ (Y.flatMap vL ++ (vL (G.length : Int) ++ G.flatMap grpL)))))) := by
  unfold certB
  simp only [groupsB_list, app_list, vB_list, intsB_list, couplesB_list, edgesB_list, List.append_assoc]

theorem edges_back (t : ByteArray) : ∀ (Q : List EdgeI) (p r : List UInt8), (∀ e ∈ Q, small e.A ∧ small e.B ∧ small e.W1 ∧ small e.W2 ∧ small e.W3) → t.data.toList = p ++ (Q.flatMap edgeL ++ r) → rdEdges t Q.length ⟨p.length, false⟩ = (Q, ⟨(p ++ Q.flatMap edgeL).length, false⟩)
  | [], p, r, _, _ => by simp [rdEdges]
  | e :: Q, p, r, h, ht => by
    obtain ⟨⟨a0, a1⟩, ⟨b0, b1⟩, ⟨c0, c1⟩, ⟨d0, d1⟩, ⟨e0, e1⟩⟩ := h e (by simp)
    rw [List.flatMap_cons] at ht
    simp only [edgeL, List.append_assoc] at ht
    have r1 := rd_back t p _ e.A a0 a1 ht
    have r2 := rd_back t (p ++ vL e.A) _ e.B b0 b1 (by rw [ht]; simp only [List.append_assoc] <;> rfl)
    have r3 := rd_back t (p ++ vL e.A ++ vL e.B) _ e.W1 c0 c1 (by rw [ht]; simp only [List.append_assoc] <;> rfl)
    have r4 := rd_back t (p ++ vL e.A ++ vL e.B ++ vL e.W1) _ e.W2 d0 d1 (by rw [ht]; simp only [List.append_assoc] <;> rfl)
    have r5 := rd_back t (p ++ vL e.A ++ vL e.B ++ vL e.W1 ++ vL e.W2) _ e.W3 e0 e1 (by rw [ht]; simp only [List.append_assoc] <;> rfl)
    have r6 := edges_back t Q (p ++ vL e.A ++ vL e.B ++ vL e.W1 ++ vL e.W2 ++ vL e.W3) r (fun x hx => h x (by simp [hx])) (by rw [ht]; simp only [List.append_assoc] <;> rfl)
    rw [List.length_cons, rdEdges, if_neg (by simp)]
    simp only [r1, r2, r3, r4, r5, r6]
    simp only [List.flatMap_cons, edgeL, List.append_assoc]

theorem couples_back (t : ByteArray) : ∀ (Q : List CoupleI) (p r : List UInt8), (∀ e ∈ Q, small e.A ∧ small e.B) → t.data.toList = p ++ (Q.flatMap coupleL ++ r) → rdCouples t Q.length ⟨p.length, false⟩ = (Q, ⟨(p ++ Q.flatMap coupleL).length, false⟩)
  | [], p, r, _, _ => by simp [rdCouples]
  | e :: Q, p, r, h, ht => by
    obtain ⟨⟨a0, a1⟩, ⟨b0, b1⟩⟩ := h e (by simp)
    rw [List.flatMap_cons] at ht
    simp only [coupleL, List.append_assoc] at ht
    have r1 := rd_back t p _ e.A a0 a1 ht
    have r2 := rd_back t (p ++ vL e.A) _ e.B b0 b1 (by rw [ht]; simp only [List.append_assoc] <;> rfl)
    have r6 := couples_back t Q (p ++ vL e.A ++ vL e.B) r (fun x hx => h x (by simp [hx])) (by rw [ht]; simp only [List.append_assoc] <;> rfl)
    rw [List.length_cons, rdCouples, if_neg (by simp)]
    simp only [r1, r2, r6]
    simp only [List.flatMap_cons, coupleL, List.append_assoc]

theorem min_nat (n : Nat) (h : n ≤ 100) : min ((n : Int).toNat) 100 = n := by omega

theorem groups_back (t : ByteArray) : ∀ (Q : List GrpI) (p r : List UInt8), (∀ q ∈ Q, q.M.length ≤ 100 ∧ (∀ x ∈ q.M, small x) ∧ small q.Z) → t.data.toList = p ++ (Q.flatMap grpL ++ r) → rdGroups t Q.length ⟨p.length, false⟩ = (Q, ⟨(p ++ Q.flatMap grpL).length, false⟩)
  | [], p, r, _, _ => by simp [rdGroups]
  | q :: Q, p, r, h, ht => by
    obtain ⟨hl, hm, z0, z1⟩ := h q (by simp)
    rw [List.flatMap_cons] at ht
    simp only [grpL, List.append_assoc] at ht
    have r1 := rd_back t p _ (q.M.length : Int) (by omega) (by omega) ht
    have r2 := ints_back t q.M (p ++ vL (q.M.length : Int)) _ hm (by rw [ht]; simp only [List.append_assoc] <;> rfl)
    have r3 := rd_back t (p ++ vL (q.M.length : Int) ++ q.M.flatMap vL) _ q.Z z0 z1 (by rw [ht]; simp only [List.append_assoc] <;> rfl)
    have r6 := groups_back t Q (p ++ vL (q.M.length : Int) ++ q.M.flatMap vL ++ vL q.Z) r (fun x hx => h x (by simp [hx])) (by rw [ht]; simp only [List.append_assoc] <;> rfl)
    rw [List.length_cons, rdGroups, if_neg (by simp)]
    simp only [r1, min_nat _ hl, r2, r3, r6]
    simp only [List.flatMap_cons, grpL, List.append_assoc]

theorem few_of (hi : Int) : ∀ (L : List Int) (lo : Int), L.Pairwise (· < ·) → (∀ x ∈ L, lo ≤ x ∧ x < hi) → (L.length : Int) ≤ max 0 (hi - lo)
  | [], lo, _, _ => by simp; omega
  | x :: r, lo, h, hb => by
    have h1 := List.pairwise_cons.1 h
    have h2 := hb x (by simp)
    have h3 := few_of hi r (x + 1) h1.2 (fun y hy => ⟨by have := h1.1 y hy; omega, (hb y (by simp [hy])).2⟩)
    rw [List.length_cons]
    omega

theorem edges_few {s : Int} {Q : List EdgeI} (h : graphOk s Q = true) : Q.length ≤ 81 := by
  obtain ⟨h0, h9, hE, hP⟩ := graph_sound h
  have h1 : (Q.map fun e => e.A * 9 + e.B).Pairwise (· < ·) := by
    rw [List.pairwise_map]
    refine List.Pairwise.imp_of_mem ?_ hP
    intro a b ha hb hab
    have a1 := (edgeOk_iff s a).1 (hE a ha)
    have b1 := (edgeOk_iff s b).1 (hE b hb)
    rcases (ahead_iff a b).1 hab with h | ⟨h, h'⟩ <;> omega
  have h2 := few_of 81 _ 0 h1 (fun x hx => by
    obtain ⟨e, he, rfl⟩ := List.mem_map.1 hx
    have a1 := (edgeOk_iff s e).1 (hE e he)
    omega)
  rw [List.length_map] at h2
  omega

theorem cert_sizes {s : Int} {Q : List EdgeI} {M : List CoupleI} {Y : List Int} {G : List GrpI} (h : certR s Q M Y G = true) : (Y.length : Int) = s ∧ Q.length ≤ 81 := by
  unfold certR at h
  simp only [Bool.and_eq_true] at h
  have hp := proof_sound h.1
  exact ⟨hp.2.1, edges_few hp.1⟩

theorem rdCert_back {s : Int} {Q : List EdgeI} {M : List CoupleI} {Y : List Int} {G : List GrpI} (h : certR s Q M Y G = true) :
    rdCert (certB s Q M Y G) = ⟨s, Q, M, Y, G, ⟨(certB s Q M Y G).size, false⟩⟩ := by
  obtain ⟨s0, s9, rE, rM9, rM, rY9, rY, rG8, rG⟩ := cert_ranges h
  obtain ⟨hY, hQ'⟩ := cert_sizes h
  have hQ : Q.length ≤ 100 := by omega
  generalize ht : certB s Q M Y G = t
  have hl := certB_list s Q M Y G
  rw [ht] at hl
  have q1 := rd_back t [] _ s s0 (by omega) hl
  have q2 := rd_back t ([] ++ vL s) _ (Q.length : Int) (by omega) (by omega) (by rw [hl]; simp only [List.nil_append] <;> rfl)
  have q3 := edges_back t Q ([] ++ vL s ++ vL (Q.length : Int)) _ (fun e he => by obtain ⟨a, b, c, d, f⟩ := rE e he; exact ⟨⟨a.1, by omega⟩, ⟨b.1, by omega⟩, ⟨c.1, by omega⟩, ⟨d.1, by omega⟩, ⟨f.1, by omega⟩⟩) (by rw [hl]; simp only [List.append_assoc, List.nil_append] <;> rfl)
  have q4 := rd_back t ([] ++ vL s ++ vL (Q.length : Int) ++ Q.flatMap edgeL) _ (M.length : Int) (by omega) (by omega) (by rw [hl]; simp only [List.append_assoc, List.nil_append] <;> rfl)
  have q5 := couples_back t M ([] ++ vL s ++ vL (Q.length : Int) ++ Q.flatMap edgeL ++ vL (M.length : Int)) _ (fun e he => by obtain ⟨a, b⟩ := rM e he; exact ⟨⟨a.1, by omega⟩, ⟨b.1, by omega⟩⟩) (by rw [hl]; simp only [List.append_assoc, List.nil_append] <;> rfl)
  have q6 := ints_back t Y ([] ++ vL s ++ vL (Q.length : Int) ++ Q.flatMap edgeL ++ vL (M.length : Int) ++ M.flatMap coupleL) _ (fun e he => rY e he) (by rw [hl]; simp only [List.append_assoc, List.nil_append] <;> rfl)
  have q7 := rd_back t ([] ++ vL s ++ vL (Q.length : Int) ++ Q.flatMap edgeL ++ vL (M.length : Int) ++ M.flatMap coupleL ++ Y.flatMap vL) _ (G.length : Int) (by omega) (by omega) (by rw [hl]; simp only [List.append_assoc, List.nil_append] <;> rfl)
  have q8 := groups_back t G ([] ++ vL s ++ vL (Q.length : Int) ++ Q.flatMap edgeL ++ vL (M.length : Int) ++ M.flatMap coupleL ++ Y.flatMap vL ++ vL (G.length : Int)) [] (fun q hq => by obtain ⟨a, b, c, d⟩ := rG q hq; exact ⟨by omega, fun x hx => ⟨(b x hx).1, by have := (b x hx).2; omega⟩, c, d⟩) (by rw [hl]; simp only [List.append_assoc, List.nil_append, List.append_nil])
  have hsz : t.size = ([] ++ vL s ++ vL (Q.length : Int) ++ Q.flatMap edgeL ++ vL (M.length : Int) ++ M.flatMap coupleL ++ Y.flatMap vL ++ vL (G.length : Int) ++ G.flatMap grpL).length := by
    have : t.size = t.data.toList.length := by simp
    rw [this, hl]
    simp only [List.append_assoc, List.nil_append]
  have e1 : min s.toNat 100 = Y.length := by omega
  unfold rdCert
  simp only [List.length_nil] at q1
  simp only [q1, q2, min_nat _ hQ, q3, q4, min_nat _ (show M.length ≤ 100 by omega), q5, e1, q6, q7, min_nat _ (show G.length ≤ 100 by omega), q8, ← hsz]

/-- What ReadCert takes is the text of a certificate, and of each one its text is taken. -/
theorem rc_of {s : Int} {Q : List EdgeI} {M : List CoupleI} {Y : List Int} {G : List GrpI} (h : certR s Q M Y G = true) :
    rcOk (certB s Q M Y G) = true ∧ rcV (certB s Q M Y G) = ⟨s, Q, M, Y, G, ⟨(certB s Q M Y G).size, false⟩⟩ := by
  have e := rdCert_back h
  have h1 : rcOk (certB s Q M Y G) = true := by
    unfold rcOk RC.ok
    rw [e]
    simp [h]
  exact ⟨h1, by unfold rcV; rw [if_pos h1, e]⟩

theorem rc_is {t : ByteArray} (h : rcOk t = true) : certR (rcV t).s (rcV t).Q (rcV t).M (rcV t).Y (rcV t).G = true ∧ certB (rcV t).s (rcV t).Q (rcV t).M (rcV t).Y (rcV t).G = t := by
  have e : rcV t = rdCert t := by unfold rcV; rw [if_pos h]
  rw [e]
  unfold rcOk RC.ok at h
  simp only [Bool.and_eq_true, decide_eq_true_eq] at h
  exact h.2

end Gr
end Go.Proofs.Ytalmbdfcpnkkpaa
