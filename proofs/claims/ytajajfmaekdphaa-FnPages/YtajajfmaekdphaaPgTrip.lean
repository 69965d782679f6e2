/-
  Numbers, short texts, items and pages that are written are read back. Without a program.
-/
import Derived.Test.YtajajfmaekdphaaPgLists
import Derived.Test.YtajajfmaekdphaaTurn
namespace Go.Proofs.Ytajajfmaekdphaa
open Go.RowKit

theorem byteAt_list (s : ByteArray) (i : Nat) : byteAt s i = ((s.data.toList)[i]?.map UInt8.toNat).getD 0 := by
  unfold byteAt
  split
  · rename_i h
    have h2 : i < s.data.toList.length := by simpa using h
    rw [List.getElem?_eq_getElem h2]
    rfl
  · rename_i h
    have h2 : s.data.toList.length ≤ i := by simpa using h
    rw [List.getElem?_eq_none h2]
    rfl

theorem byteAt_mk (l : List UInt8) (i : Nat) (h : i < l.length) : byteAt ⟨l.toArray⟩ i = (l[i]'h).toNat := by
  rw [byteAt_list]
  simp [List.getElem?_eq_getElem h]

theorem mix (m sc acc : Nat) : acc + m % 128 * sc + m / 128 * (sc * 128) = acc + m * sc := by
  have h : m / 128 * (sc * 128) = 128 * (m / 128) * sc := by
    rw [Nat.mul_comm sc 128, ← Nat.mul_assoc, Nat.mul_comm (m / 128) 128]
  have e : m % 128 * sc + 128 * (m / 128) * sc = m * sc := by
    rw [← Nat.add_mul, Nat.mod_add_div]
  rw [h, Nat.add_assoc, e]

theorem readV_var {s : ByteArray} {a n : Nat} (hn : n ≤ 1000000000) : ∀ (g m i acc sc f : Nat), m < 128 ^ (g + 1) → g < f → acc + m * sc = n →
    (∀ j (hj : j < (varB g m).length), byteAt s (i + j) = ((varB g m)[j]'hj).toNat) → i + (varB g m).length ≤ s.size → varB 4 n = (s.extract a (i + (varB g m).length)).toList →
    readV s a f i acc sc = some (n, i + (varB g m).length) := by
  intro g
  induction g with
  | zero =>
    intro m i acc sc f hm hf hacc hb hi hq
    obtain ⟨f, rfl⟩ : ∃ f', f = f' + 1 := ⟨f - 1, by omega⟩
    have hm7 : m ≤ 127 := by simp at hm; omega
    rw [varB_last 0 m hm7] at hb hi hq ⊢
    have hb0 := hb 0 (by simp)
    simp only [List.getElem_cons_zero, Nat.add_zero] at hb0
    rw [toNat_ofNat_small m (by omega)] at hb0
    simp only [List.length_cons, List.length_nil, Nat.zero_add] at hi hq ⊢
    have e : acc + byteAt s i % 128 * sc = n := by rw [hb0, Nat.mod_eq_of_lt (by omega)]; exact hacc
    rw [readV_yes (by omega) (by omega) (by rw [e]; omega) (by rw [e]; exact hq), e]
  | succ g ih =>
    intro m i acc sc f hm hf hacc hb hi hq
    obtain ⟨f, rfl⟩ : ∃ f', f = f' + 1 := ⟨f - 1, by omega⟩
    by_cases hm7 : m ≤ 127
    · rw [varB_last (g + 1) m hm7] at hb hi hq ⊢
      have hb0 := hb 0 (by simp)
      simp only [List.getElem_cons_zero, Nat.add_zero] at hb0
      rw [toNat_ofNat_small m (by omega)] at hb0
      simp only [List.length_cons, List.length_nil, Nat.zero_add] at hi hq ⊢
      have e : acc + byteAt s i % 128 * sc = n := by rw [hb0, Nat.mod_eq_of_lt (by omega)]; exact hacc
      rw [readV_yes (by omega) (by omega) (by rw [e]; omega) (by rw [e]; exact hq), e]
    · rw [varB_more g m (by omega)] at hb hi hq ⊢
      have hb0 := hb 0 (by simp)
      simp only [List.getElem_cons_zero, Nat.add_zero] at hb0
      rw [toNat_ofNat_small _ (by omega)] at hb0
      simp only [List.length_cons] at hi hq ⊢
      rw [readV_more (by omega) (by omega), hb0, show (m % 128 + 128) % 128 = m % 128 by omega]
      have hle : i + ((varB g (m / 128)).length + 1) = i + 1 + (varB g (m / 128)).length := by omega
      rw [hle] at hi hq ⊢
      refine ih (m / 128) (i + 1) (acc + m % 128 * sc) (sc * 128) f ?_ (by omega) ?_ ?_ hi hq
      · rw [Nat.div_lt_iff_lt_mul (by omega)]; rw [Nat.pow_succ] at hm; exact hm
      · rw [mix]; exact hacc
      · intro j hj
        have := hb (j + 1) (by simp; omega)
        simp only [List.getElem_cons_succ] at this
        rw [← this]
        congr 1
        omega

theorem extract_mid (p q r : List UInt8) : ((ByteArray.mk (p ++ q ++ r).toArray).extract p.length (p.length + q.length)).toList = q := by
  rw [ByteArray.toList_eq]
  simp

/-- A number behind p, ahead of r, is read back. -/
theorem readA_var (p r : List UInt8) (n : Nat) (hn : n ≤ 1000000000) : readA ⟨(p ++ varB 4 n ++ r).toArray⟩ (p.length : Int) = some (n, p.length + (varB 4 n).length) := by
  have hsz : (ByteArray.mk (p ++ varB 4 n ++ r).toArray).size = p.length + (varB 4 n).length + r.length := by simp [ByteArray.size]; omega
  rw [readA, if_pos ⟨by omega, by omega⟩, Int.toNat_natCast]
  refine readV_var hn 4 n p.length 0 1 5 (by omega) (by omega) (by omega) ?_ (by omega) ?_
  · intro j hj
    rw [byteAt_mk _ _ (by simp; omega)]
    congr 1
    rw [List.getElem_append_left (by simp; omega), List.getElem_append_right (by omega)]
    simp
  · exact (extract_mid p (varB 4 n) r).symm


theorem ofL_mk (l : List UInt8) : ofL l = ⟨l.toArray⟩ := rfl
theorem data_ofL (l : List UInt8) : (ofL l).data.toList = l := by simp [ofL]

theorem rsA_back (p r : List UInt8) (t : ByteArray) (ht : t.size ≤ 8000) : rsA (ofL (p ++ (shortB t).data.toList ++ r)) p.length = some (t, p.length + (shortB t).size) := by
  have e : (shortB t).data.toList = varB 4 t.size ++ t.data.toList := by simp [shortB, ByteArray.data_append]
  have hr := readA_var p (t.data.toList ++ r) t.size (by omega)
  have e2 : p ++ (varB 4 t.size ++ t.data.toList) ++ r = p ++ varB 4 t.size ++ (t.data.toList ++ r) := by simp
  have hl : t.data.toList.length = t.size := by simp
  unfold rsA
  rw [e, e2, ofL_mk, hr, shortB_size]
  simp only
  have hsz : (ByteArray.mk (p ++ varB 4 t.size ++ (t.data.toList ++ r)).toArray).size = p.length + (varB 4 t.size).length + (t.size + r.length) := by rw [size_mk]; simp; omega
  rw [if_pos ⟨ht, by rw [hsz]; omega⟩]
  have e3 : (ByteArray.mk (p ++ varB 4 t.size ++ (t.data.toList ++ r)).toArray).extract (p.length + (varB 4 t.size).length) (p.length + (varB 4 t.size).length + t.size) = t := by
    have h := extract_mid (p ++ varB 4 t.size) t.data.toList r
    rw [List.length_append, hl, List.append_assoc (p ++ varB 4 t.size)] at h
    apply toList_inj
    rw [h, ByteArray.toList_eq]
  rw [e3]
  congr 2
  omega

theorem varT_data {n : Int} (h0 : 0 ≤ n) (h1 : n ≤ 1000000000) : (varT n).data.toList = varB 4 n.toNat := by rw [varT_yes ⟨h0, h1⟩]

theorem empty_of {b : ByteArray} (h : (b.size == 0) = true) : b = ⟨#[]⟩ := by
  cases b with | mk d => cases d with | mk l => cases l with
    | nil => rfl
    | cons c l => simp [ByteArray.size] at h

theorem itA_back {k : Int} (hk : k = 1 ∨ k = 2) (p r : List UInt8) (x : It) (hx : restOk k x = true) (h1 : x.key.size ≤ 8000) (h2 : x.val.size ≤ 8000) : itA k (ofL (p ++ (itT k x).data.toList ++ r)) p.length = some (x, p.length + (itT k x).size) := by
  have e : (itT k x).data.toList = (shortB x.key).data.toList ++ (restT k x).data.toList := by simp [itT, ByteArray.data_append]
  have hl : (shortB x.key).data.toList.length = (shortB x.key).size := by simp
  have hs : (itT k x).size = (shortB x.key).size + (restT k x).size := by unfold itT; rw [ByteArray.size_append]
  have e2 : p ++ ((shortB x.key).data.toList ++ (restT k x).data.toList) ++ r = p ++ (shortB x.key).data.toList ++ ((restT k x).data.toList ++ r) := by simp
  have hb := rsA_back p ((restT k x).data.toList ++ r) x.key h1
  rw [e, e2, hs]
  obtain ⟨key, val, pg⟩ := x
  simp only at hb h1 h2 hl ⊢
  rcases hk with rfl | rfl
  · have hp : pg = 0 := by simpa [restOk] using hx
    subst hp
    have er : restT 1 ⟨key, val, 0⟩ = shortB val := if_pos rfl
    rw [er] at hb ⊢
    have hb2 := rsA_back (p ++ (shortB key).data.toList) r val h2
    rw [List.append_assoc (p ++ (shortB key).data.toList), List.length_append, hl] at hb2
    have h3 := itA_yes (k := 1) (u := val) (y := 0) (c := p.length + (shortB key).size + (shortB val).size) hb (by rw [restA_one, hb2]; rfl)
    rw [h3]
    congr 2
    omega
  · have hx2 : (val.size == 0) = true ∧ 0 ≤ pg ∧ pg < 400 := by
      unfold restOk at hx
      rw [if_neg (by omega)] at hx
      simpa using hx
    obtain ⟨hv, hp0, hp1⟩ := hx2
    have hve := empty_of hv
    subst hve
    have er : restT 2 ⟨key, ⟨#[]⟩, pg⟩ = varT pg := (if_neg (by omega)).trans (if_pos rfl)
    rw [er] at hb ⊢
    have hd := varT_data hp0 (by omega)
    have hsz : (varT pg).size = (varB 4 pg.toNat).length := by rw [varT_yes ⟨hp0, by omega⟩, size_mk]
    have hb2 := readA_var (p ++ (shortB key).data.toList) r pg.toNat (by omega)
    rw [← hd, List.append_assoc (p ++ (shortB key).data.toList), List.length_append, hl, ← ofL_mk] at hb2
    have h3 := itA_yes (k := 2) (u := ⟨#[]⟩) (y := ((pg.toNat : Nat) : Int)) (c := p.length + (shortB key).size + (varT pg).data.toList.length) hb (by rw [restA_other (by omega), hb2]; rfl)
    rw [h3]
    have e5 : ((pg.toNat : Nat) : Int) = pg := by omega
    have e6 : (varT pg).data.toList.length = (varT pg).size := by simp
    rw [e5, e6]
    congr 2
    omega

theorem itsA_back {k : Int} (hk : k = 1 ∨ k = 2) : ∀ (Q : List It) (p r : List UInt8), (∀ x ∈ Q, restOk k x = true ∧ x.key.size ≤ 8000 ∧ x.val.size ≤ 8000) →
    itsA k (ofL (p ++ (Q.map fun x => (itT k x).data.toList).flatten ++ r)) Q.length p.length = some Q := by
  intro Q
  induction Q with
  | nil => intro p r _; rfl
  | cons x Q ih =>
    intro p r h
    have hx := h x (by simp)
    have hi := itA_back hk p ((Q.map fun x => (itT k x).data.toList).flatten ++ r) x hx.1 hx.2.1 hx.2.2
    have e : p ++ ((x :: Q).map fun x => (itT k x).data.toList).flatten ++ r = p ++ (itT k x).data.toList ++ ((Q.map fun x => (itT k x).data.toList).flatten ++ r) := by simp
    have hl : (itT k x).data.toList.length = (itT k x).size := by simp
    rw [e, List.length_cons, itsA_step hi]
    have hq := ih (p ++ (itT k x).data.toList) r (fun y hy => h y (by simp [hy]))
    rw [List.append_assoc (p ++ (itT k x).data.toList), List.length_append, hl] at hq
    rw [hq]
    rfl

theorem pageTo_data (k : Int) (Q : List It) (n : Nat) : (pageTo k Q n).data.toList = [UInt8.ofNat k.toNat] ++ (varT (Q.length : Int)).data.toList ++ ((Q.take n).map fun x => (itT k x).data.toList).flatten := by
  unfold pageTo
  have h : ∀ (L : List It) (s : ByteArray), (L.foldl (fun s x => s ++ itT k x) s).data.toList = s.data.toList ++ (L.map fun x => (itT k x).data.toList).flatten := by
    intro L
    induction L with
    | nil => intro s; simp
    | cons x L ih => intro s; rw [List.foldl_cons, ih]; simp [ByteArray.data_append]
  rw [h]
  simp [ByteArray.data_append]

theorem PageOk.small {k : Int} {Q : List It} (h : PageOk k Q) : ∀ x ∈ Q, restOk k x = true ∧ x.key.size ≤ 8000 ∧ x.val.size ≤ 8000 := by
  intro x hx
  obtain ⟨j, hj, rfl⟩ := List.getElem_of_mem hx
  have h1 := h.2.2.1 j hj
  have hr : restOk k Q[j] = true := by unfold okAt at h1; rw [Bool.and_eq_true] at h1; exact h1.2
  have h3 := sizeTo_succ k Q j hj
  have h4 := sizeTo_mono k Q (m := j + 1) (n := Q.length) (by omega)
  have h5 := h.2.2.2
  have h6 := shortB_bd Q[j].key
  have h7 := shortB_bd Q[j].val
  refine ⟨hr, ?_, ?_⟩
  · unfold itSize at h3
    rw [if_pos h.1] at h3
    omega
  · rcases h.1 with rfl | rfl
    · rw [itSize_one] at h3; omega
    · unfold restOk at hr
      rw [if_neg (by omega)] at hr
      rw [Bool.and_eq_true] at hr
      have := eq_of_beq hr.1
      omega

theorem PageOk.count {k : Int} {Q : List It} (h : PageOk k Q) : Q.length ≤ 54 := by
  have h1 := sizeTo_ge h.1 Q Q.length (Nat.le_refl _)
  have h2 := h.2.2.2
  omega

theorem kind_byte {k : Int} (h : k = 1 ∨ k = 2) : ((UInt8.ofNat k.toNat).toNat : Int) = k := by
  rcases h with rfl | rfl <;> rfl

theorem get_ofL (l : List UInt8) (h : 0 < (ofL l).size) (b : UInt8) (m : List UInt8) (e : l = b :: m) : (ofL l)[0]'h = b := by
  subst e; rfl

/-- A right page is read back from its bytes. -/
theorem pgA_back {k : Int} {Q : List It} (h : PageOk k Q) : pgA (pageTo k Q Q.length) = some (k, Q) := by
  have hc := h.count
  have hd := pageTo_data k Q Q.length
  rw [List.take_length] at hd
  have hv : (varT (Q.length : Int)).data.toList = varB 4 Q.length := by rw [varT_nat (by omega)]
  rw [hv] at hd
  have hT : pageTo k Q Q.length = ofL ([UInt8.ofNat k.toNat] ++ varB 4 Q.length ++ (Q.map fun x => (itT k x).data.toList).flatten) := by rw [← hd, ofL_data]
  have hs : 0 < (ofL ([UInt8.ofNat k.toNat] ++ varB 4 Q.length ++ (Q.map fun x => (itT k x).data.toList).flatten)).size := by rw [ofL_size]; simp
  have hr := readA_var [UInt8.ofNat k.toNat] (Q.map fun x => (itT k x).data.toList).flatten Q.length (by omega)
  have hi := itsA_back h.1 Q ([UInt8.ofNat k.toNat] ++ varB 4 Q.length) [] h.small
  rw [List.append_nil, List.length_append] at hi
  rw [← ofL_mk] at hr
  unfold pgA
  rw [hT, dif_pos hs, get_ofL _ hs _ _ rfl, kind_byte h.1]
  have hr' : readA (ofL ([UInt8.ofNat k.toNat] ++ varB 4 Q.length ++ (Q.map fun x => (itT k x).data.toList).flatten)) 1 = some (Q.length, 1 + (varB 4 Q.length).length) := by
    have e : (([UInt8.ofNat k.toNat] : List UInt8).length : Int) = 1 := rfl
    rw [← e, hr]
    rfl
  rw [hr', Option.bind_some]
  have hi' : itsA k (ofL ([UInt8.ofNat k.toNat] ++ varB 4 Q.length ++ (Q.map fun x => (itT k x).data.toList).flatten)) Q.length (1 + (varB 4 Q.length).length) = some Q := hi
  simp only [hi']
  rfl

theorem unS_of {s : ByteArray} {v : Option ByteArray} (h : unsealA s = match v with | none => .tuple #[.string ⟨#[]⟩, .bool false] | some u => .tuple #[.string u, .bool true]) : unS s = v := by
  cases hu : unS s with
  | none =>
    rw [unsealA_none hu] at h
    cases v with
    | none => rfl
    | some u => simp at h
  | some t =>
    rw [(unsealA_some hu).1] at h
    cases v with
    | none => simp at h
    | some u => simp at h; rw [h]

/-- A right page comes back from its text. -/
theorem rpA_back {k : Int} {Q : List It} (h : PageOk k Q) : rpA (sealB (pageTo k Q Q.length)) = some (k, Q) := by
  have hs := pageTo_small h.1 Q Q.length (Nat.le_refl _) h.2.2.2
  have hu : unS (sealB (pageTo k Q Q.length)) = some (pageTo k Q Q.length) := unS_of (v := some _) (unsealA_back _ (by omega))
  unfold rpA
  rw [hu, Option.bind_some, pgA_back h, Option.bind_some]
  exact heldTo_yes h rfl

/-- With one byte turned it is none. -/
theorem rpA_turned {k : Int} {Q : List It} (h : PageOk k Q) (i : Nat) (hi : i < (sealB (pageTo k Q Q.length)).data.toList.length) (c : UInt8) (hc : c ≠ (sealB (pageTo k Q Q.length)).data.toList.getD i 0) : rpA (ofL ((sealB (pageTo k Q Q.length)).data.toList.set i c)) = none := by
  have hs := pageTo_small h.1 Q Q.length (Nat.le_refl _) h.2.2.2
  have hg : (sealB (pageTo k Q Q.length)).data.toList.getD i 0 = (sealB (pageTo k Q Q.length)).data.toList[i] := by rw [List.getD_eq_getElem?_getD, List.getElem?_eq_getElem hi]; rfl
  rw [hg] at hc
  have hu : unS (ofL ((sealB (pageTo k Q Q.length)).data.toList.set i c)) = none := unS_of (v := none) (unsealA_turned _ (by omega) i hi c hc)
  unfold rpA
  rw [hu]
  rfl

/-- How long its text is. -/
theorem sealed_size {k : Int} {Q : List It} (h : PageOk k Q) : (sealB (pageTo k Q Q.length)).size = sizeTo k Q Q.length + 6 := by
  have hc := h.count
  rw [sealB_size, pageTo_size h.1 Q Q.length (Nat.le_refl _), varT_nat (by omega), size_mk, varB_last 4 Q.length (by omega)]
  simp
  omega
end Go.Proofs.Ytajajfmaekdphaa
