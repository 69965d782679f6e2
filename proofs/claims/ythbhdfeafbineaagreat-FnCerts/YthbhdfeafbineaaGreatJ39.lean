/-
 GrImpl12, CfM.
-/
import Derived.Test.YthbhdfeafbineaaGreatJ32
import Derived.Test.YthbhdfeafbineaaGreatJ38
import Derived.Test.YthbhdfeafbineaaGreatJ17
import Derived.Test.YthbhdfeafbineaaGreatJ12
namespace Go.Proofs.YthbhdfeafbineaaGreat
namespace Gr
open Go.RowKit
theorem empty_app (x : ByteArray) : (⟨#[]⟩ : ByteArray) ++ x = x := by
  apply ByteArray.ext
  simp
theorem Wri.new {w : World} : Wri (w.alloc (.cells #[.pointer none, .slice none 0 0] 53)) w.heap.size w.heap.size ⟨#[]⟩ :=
  .inl ⟨Nat.le_refl _, .slice none 0 0, heap_alloc_new w _, ⟨rfl, .inl ⟨rfl, rfl⟩⟩, by simp [Value.ownBlock]⟩
theorem edgesB_size : ∀ (Q : List EdgeI) (t : ByteArray), (edgesB t Q).size ≤ t.size + 25 * Q.length
  | [], t => by simp [edgesB]
  | x :: r, t => by
    rw [edgesB]
    have h1 := edgesB_size r (((((t ++ vB x.A) ++ vB x.B) ++ vB x.W1) ++ vB x.W2) ++ vB x.W3)
    have := vB_size x.A
    have := vB_size x.B
    have := vB_size x.W1
    have := vB_size x.W2
    have := vB_size x.W3
    simp only [ByteArray.size_append] at h1
    rw [List.length_cons]
    omega
theorem couplesB_size : ∀ (Q : List CoupleI) (t : ByteArray), (couplesB t Q).size ≤ t.size + 10 * Q.length
  | [], t => by simp [couplesB]
  | x :: r, t => by
    rw [couplesB]
    have h1 := couplesB_size r ((t ++ vB x.A) ++ vB x.B)
    have := vB_size x.A
    have := vB_size x.B
    simp only [ByteArray.size_append] at h1
    rw [List.length_cons]
    omega
theorem vB_pos (n : Int) : 0 < (vB n).size := by
  have : ∀ f m, 0 < (varB f m).length := by
    intro f
    induction f with
    | zero => intro m; simp [varB]
    | succ f ih => intro m; rw [varB]; split <;> simp
  show 0 < (varB 4 n.toNat).toArray.size
  rw [List.size_toArray]
  exact this _ _
theorem certB_pos (s : Int) (Q : List EdgeI) (M : List CoupleI) (Y : List Int) (G : List GrpI) : (certB s Q M Y G).size ≠ 0 := by
  have h1 : (certB s Q M Y G).size = (certB s Q M Y G).data.toList.length := by simp
  rw [h1, certB_list, List.length_append]
  have := vB_pos s
  have h2 : (vB s).size = (vL s).length := by rw [← vB_list]; simp
  omega
set_option maxRecDepth 100000 in
set_option maxHeartbeats 2000000 in
theorem implCertText_gen (B : Nat) (v : Value) (s : Int) (Q : List EdgeI) (M : List CoupleI) (Y : List Int) (G : List GrpI) (h1 : csize Q M Y G ≤ 1048576) (w : World) (hB : B ≤ w.heap.size) (hv : CeAt w v B s Q M Y G) :
    Calls Tryz.prog 6 #[v] w fun e w' => e = .returned (.tuple #[.string (certT s Q M Y G), .bool (certR s Q M Y G)]) ∧ Below w.heap.size w w' := by
  obtain ⟨l1, l2, l3⟩ := csize_le h1
  obtain ⟨m1', m2', m3'⟩ := psize_le l3
  obtain ⟨a, c, a1, c1, a2, c2, a3, c3, rfl, hg, hm, hp, _⟩ := hv
  have CK := hide (fun w1 (hb : Below w.heap.size w w1) => implCert_gen B _ s Q _ M _ Y G l1 l2 l3 w1 (by have := hb.size; omega) (hg.below hb hB) (hm.below hb hB) (hp.below hb hB))
  have hV : certT s Q M Y G = if certR s Q M Y G = true then certB s Q M Y G else ⟨#[]⟩ := rfl
  have HRG : Hid (certR s Q M Y G = true → _) := fun h => cert_ranges h
  have hpos := certB_pos s Q M Y G
  generalize certT s Q M Y G = V at hV ⊢
  have hCB : certB s Q M Y G = groupsB (intsB (couplesB (edgesB ((⟨#[]⟩ ++ vB s) ++ vB (Q.length : Int)) Q ++ vB (M.length : Int)) M) Y ++ vB (G.length : Int)) G := by rw [empty_app]; rfl
  generalize certB s Q M Y G = CB at hV hCB hpos
  generalize certR s Q M Y G = ok at CK hV HRG ⊢
  have HG := hide (fun w1 (hb : Below w.heap.size w w1) => hg.below hb hB)
  have HM := hide (fun w1 (hb : Below w.heap.size w w1) => hm.below hb hB)
  have HP := hide (fun w1 (hb : Below w.heap.size w w1) => hp.below hb hB)
  clear hg hm hp
  go_enter Tryz.func6, Tryz.ntmps6
  go_wp2_with fail
  obtain ⟨W1, hW1⟩ : ∃ W, W = w.alloc (Obj.cells #[Value.int .i64 s, Value.slice a Q.length c, Value.slice a1 M.length c1, Value.slice a2 Y.length c2, Value.slice a3 G.length c3] 33) := ⟨_, rfl⟩
  rw [← hW1]
  have b1 : Below w.heap.size w W1 := by rw [hW1]; exact below_new _ _
  have m1 : Blk W1 w.heap.size #[Value.int .i64 s, Value.slice a Q.length c, Value.slice a1 M.length c1, Value.slice a2 Y.length c2, Value.slice a3 G.length c3] 33 := by rw [hW1]; exact Blk.new0
  clear hW1
  refine (unhide CK W1 b1).mono ?_
  rintro e w2 ⟨rfl, hb2⟩
  have b2 := b1.trans (hb2.mono b1.size)
  have m2 := m1.below hb2
  have z2 := m2.lt
  clear m1 hb2 b1 CK
  cases ok with
  | false =>
    rw [if_neg (by simp)] at hV
    subst hV
    clear m2
    go_wp2_with fail
    go_ret2
    exact ⟨rfl, b2⟩
  | true =>
    rw [if_pos rfl] at hV
    subst hV
    obtain ⟨s0, s9, rE, rM9, rM, rY9, rY, rG8, rG⟩ := unhide HRG rfl
    obtain ⟨W3, hW3⟩ : ∃ W, W = w2.alloc (.cells #[.pointer none, .slice none 0 0] 53) := ⟨_, rfl⟩
    have b3 : Below w2.heap.size w2 W3 := by rw [hW3]; exact below_new _ _
    have h3 : Wri W3 w2.heap.size w2.heap.size ⟨#[]⟩ := by rw [hW3]; exact Wri.new
    have m3 := m2.below b3
    have PG := hide (fun w4 => putGraph_any w2.heap.size w2.heap.size B ⟨#[]⟩ (.agg #[.int .i64 s, .slice a Q.length c]) s Q ⟨s0, by omega⟩ (fun e he => by obtain ⟨a, b, c, d, f⟩ := rE e he; exact ⟨⟨a.1, by omega⟩, ⟨b.1, by omega⟩, ⟨c.1, by omega⟩, ⟨d.1, by omega⟩, ⟨f.1, by omega⟩⟩) l1 (by decide) w4)
    have hzE := edgesB_size Q ((⟨#[]⟩ ++ vB s) ++ vB (Q.length : Int))
    have hzs := vB_size s
    have hzq := vB_size (Q.length : Int)
    rw [empty_app] at hzE
    rw [ByteArray.size_append] at hzE
    rw [empty_app] at PG hCB
    generalize edgesB (vB s ++ vB (Q.length : Int)) Q = E1 at PG hzE hCB
    have PP := hide (fun w4 => putPairs_any w2.heap.size w2.heap.size B E1 (.slice a1 M.length c1) M (fun e he => by obtain ⟨a, b⟩ := rM e he; exact ⟨⟨a.1, by omega⟩, ⟨b.1, by omega⟩⟩) l2 (by omega) w4)
    have hzM := couplesB_size M (E1 ++ vB (M.length : Int))
    have hzm := vB_size (M.length : Int)
    rw [ByteArray.size_append] at hzM
    generalize couplesB (E1 ++ vB (M.length : Int)) M = E2 at PP hzM hCB
    have PF := hide (fun w4 => putProof_any w2.heap.size w2.heap.size B E2 (.agg #[.slice a2 Y.length c2, .slice a3 G.length c3]) Y G (fun e he => rY e he) (fun q hq => by obtain ⟨a, b, c, d⟩ := rG q hq; exact ⟨by omega, fun x hx => ⟨(b x hx).1, by have := (b x hx).2; omega⟩, c, d⟩) (by omega) (by omega) (by omega) w4)
    rw [← hCB] at PF
    have SA := hide (fun w4 (h : Wri w4 w2.heap.size w2.heap.size V) => string_any w2.heap.size w2.heap.size V w4 h hpos)
    clear rE rM rY rG HRG hzE hzs hzq hzM hzm hCB hpos m2
    have hBz : B ≤ w2.heap.size := Nat.le_trans hB b2.size
    have g0 : W3.cell? ⟨w.heap.size, 0, none⟩ = some (.int .i64 s) := m3.cell 0 _ rfl
    have g1 : W3.cell? ⟨w.heap.size, 1, none⟩ = some (.slice a Q.length c) := m3.cell 1 _ rfl
    have hW3' := hW3
    rw [hW3] at g0 g1
    go_wp2_with fail
    rw [← hW3']
    clear g0 g1 hW3 hW3'
    have z3 : w2.heap.size ≤ W3.heap.size := b3.size
    have B3 := b2.trans (b3.mono b2.size)
    refine (unhide PG W3 h3 z3 hBz (unhide HG W3 B3)).mono ?_
    rintro e w4 ⟨rfl, h4, b4, o4⟩
    have m4 : Blk w4 w.heap.size #[Value.int .i64 s, Value.slice a Q.length c, Value.slice a1 M.length c1, Value.slice a2 Y.length c2, Value.slice a3 G.length c3] 33 := (b4.block _ z2).trans m3
    have g2 : w4.cell? ⟨w.heap.size, 2, none⟩ = some (.slice a1 M.length c1) := m4.cell 2 _ rfl
    have z4 : w2.heap.size ≤ w4.heap.size := Nat.le_trans z3 b4.size
    have B4 : Below w.heap.size w w4 := B3.trans (b4.mono b2.size)
    have H4 := hide h4
    clear h4 b4 o4 m3 PG
    go_wp2_with fail
    refine (unhide PP w4 (unhide H4) z4 hBz (unhide HM w4 B4)).mono ?_
    rintro e w5 ⟨rfl, h5, b5, o5⟩
    have m5 : Blk w5 w.heap.size #[Value.int .i64 s, Value.slice a Q.length c, Value.slice a1 M.length c1, Value.slice a2 Y.length c2, Value.slice a3 G.length c3] 33 := (b5.block _ z2).trans m4
    have g3 : w5.cell? ⟨w.heap.size, 3, none⟩ = some (.slice a2 Y.length c2) := m5.cell 3 _ rfl
    have g4 : w5.cell? ⟨w.heap.size, 4, none⟩ = some (.slice a3 G.length c3) := m5.cell 4 _ rfl
    have z5 : w2.heap.size ≤ w5.heap.size := Nat.le_trans z4 b5.size
    have B5 : Below w.heap.size w w5 := B4.trans (b5.mono b2.size)
    have H5 := hide h5
    clear h5 b5 o5 m4 g2 PP
    go_wp2_with fail
    refine (unhide PF w5 (unhide H5) z5 hBz (unhide HP w5 B5)).mono ?_
    rintro e w6 ⟨rfl, h6, b6, o6⟩
    have B6 : Below w.heap.size w w6 := B5.trans (b6.mono b2.size)
    have H6 := hide h6
    clear h6 b6 o6 m5 g3 g4 PF
    go_wp2_with fail
    refine (unhide SA w6 (unhide H6)).mono ?_
    rintro e w7 ⟨rfl, b7⟩
    have B7 : Below w.heap.size w w7 := B6.trans (b7.mono b2.size)
    go_wp2_with fail
    go_ret2
    exact ⟨rfl, B7⟩
theorem groupsB_size : ∀ (G : List GrpI) (t : ByteArray), (∀ q ∈ G, q.M.length ≤ 9) → (groupsB t G).size ≤ t.size + 55 * G.length
  | [], t, _ => by simp [groupsB]
  | q :: r, t, h => by
    rw [groupsB]
    have h1 := groupsB_size r ((intsB (t ++ vB (q.M.length : Int)) q.M) ++ vB q.Z) (fun x hx => h x (by simp [hx]))
    have h2 := intsB_size q.M (t ++ vB (q.M.length : Int))
    have h3 := h q (by simp)
    have := vB_size (q.M.length : Int)
    have := vB_size q.Z
    simp only [ByteArray.size_append] at h1 h2
    rw [List.length_cons]
    omega
theorem certT_size (s : Int) (Q : List EdgeI) (M : List CoupleI) (Y : List Int) (G : List GrpI) : (certT s Q M Y G).size ≤ 5000 := by
  unfold certT
  by_cases h : certR s Q M Y G = true
  · rw [if_pos h]
    obtain ⟨_, _, _, m9, _, y9, _, g8, hg⟩ := cert_ranges h
    obtain ⟨_, q81⟩ := cert_sizes h
    unfold certB
    have h1 := groupsB_size G (intsB (couplesB (edgesB (vB s ++ vB (Q.length : Int)) Q ++ vB (M.length : Int)) M) Y ++ vB (G.length : Int)) (fun q hq => (hg q hq).1)
    have h2 := intsB_size Y (couplesB (edgesB (vB s ++ vB (Q.length : Int)) Q ++ vB (M.length : Int)) M)
    have h3 := couplesB_size M (edgesB (vB s ++ vB (Q.length : Int)) Q ++ vB (M.length : Int))
    have h4 := edgesB_size Q (vB s ++ vB (Q.length : Int))
    have := vB_size s
    have := vB_size (Q.length : Int)
    have := vB_size (M.length : Int)
    have := vB_size (G.length : Int)
    simp only [ByteArray.size_append] at h1 h2 h3 h4
    omega
  · rw [if_neg h]
    show (0 : Nat) ≤ 5000
    omega
theorem rc_text (t : ByteArray) (h : rcOk t = true) : certT (rcV t).s (rcV t).Q (rcV t).M (rcV t).Y (rcV t).G = t := by
  obtain ⟨h1, h2⟩ := rc_is h
  unfold certT
  rw [if_pos h1]
  exact h2
def glue (L : List ByteArray) : ByteArray := L.foldl (· ++ ·) ⟨#[]⟩
theorem glue_snoc (L : List ByteArray) (x : ByteArray) : glue (L ++ [x]) = glue L ++ x := by simp [glue, List.foldl_append]
theorem foldl_app : ∀ (L : List ByteArray) (a : ByteArray), L.foldl (· ++ ·) a = a ++ L.foldl (· ++ ·) ⟨#[]⟩
  | [], a => by simp only [List.foldl_nil]; exact (ByteArray.append_empty (b := a)).symm
  | x :: L, a => by
    simp only [List.foldl_cons]
    rw [foldl_app L (a ++ x), foldl_app L (⟨#[]⟩ ++ x), empty_app, ByteArray.append_assoc]
theorem glue_cons (x : ByteArray) (L : List ByteArray) : glue (x :: L) = x ++ glue L := by
  unfold glue
  rw [List.foldl_cons, foldl_app, empty_app]
def PartsOk : List ByteArray → Prop
  | [] => True
  | [x] => 0 < x.size ∧ x.size ≤ 40
  | x :: y :: r => x.size = 40 ∧ PartsOk (y :: r)
theorem parts_glue : ∀ (n : Nat) (t : ByteArray), t.size ≤ n → glue (partsT t) = t ∧ PartsOk (partsT t)
  | n, t, h => by
    by_cases h40 : 40 < t.size
    · obtain ⟨m, rfl⟩ : ∃ m, n = m + 1 := ⟨n - 1, by omega⟩
      rw [parts_more t h40]
      have hs : (t.extract 40 t.size).size = t.size - 40 := by simp
      obtain ⟨e, p⟩ := parts_glue m (t.extract 40 t.size) (by omega)
      have hsz : (t.extract 0 40).size = 40 := by simp; omega
      refine ⟨?_, ?_⟩
      · rw [glue_cons, e]
        apply ByteArray.ext
        apply Array.toList_inj.1
        simp
      · cases hp : partsT (t.extract 40 t.size) with
        | nil =>
          exfalso
          rw [hp] at e
          have := congrArg ByteArray.size e
          rw [hs] at this
          have e0 : (glue []).size = 0 := rfl
          omega
        | cons y r =>
          rw [hp] at p
          exact ⟨hsz, p⟩
    · by_cases h0 : 0 < t.size
      · rw [parts_last t h40 h0]
        refine ⟨?_, h0, by omega⟩
        rw [glue_cons]
        show t ++ glue [] = t
        exact ByteArray.append_empty
      · rw [parts_none t h0]
        refine ⟨?_, trivial⟩
        apply ByteArray.ext
        apply Array.toList_inj.1
        have : t.data.size = 0 := by have : t.data.size = t.size := rfl; omega
        rw [Array.eq_empty_of_size_eq_zero this]
        rfl
theorem PartsOk.at : ∀ (L : List ByteArray), PartsOk L → ∀ j (h : j < L.length), 0 < L[j].size ∧ L[j].size ≤ 40 ∧ (j + 1 < L.length → L[j].size = 40)
  | [], _, j, h => by simp at h
  | [x], hp, j, h => by
    have : j = 0 := by simp at h; omega
    subst this
    exact ⟨hp.1, hp.2, by simp⟩
  | x :: y :: r, hp, j, h => by
    cases j with
    | zero => have := hp.1; exact ⟨by simp; omega, by simp; omega, fun _ => this⟩
    | succ j =>
      have := PartsOk.at (y :: r) hp.2 j (by simpa using h)
      simpa using this
theorem glue_size (L : List ByteArray) (j : Nat) : (glue (L.take j)).size ≤ (glue L).size := by
  have : glue L = glue (L.take j) ++ glue (L.drop j) := by
    conv => lhs; rw [← List.take_append_drop j L]
    unfold glue
    rw [List.foldl_append, foldl_app]
  rw [this, ByteArray.size_append]
  omega
end Gr
end Go.Proofs.YthbhdfeafbineaaGreat
