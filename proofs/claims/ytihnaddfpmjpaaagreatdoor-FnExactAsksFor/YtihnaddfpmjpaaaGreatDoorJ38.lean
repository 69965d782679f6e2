/-
 GrRC2.
-/
import Derived.Test.YtihnaddfpmjpaaaGreatDoorJ23
import Derived.Test.YtihnaddfpmjpaaaGreatDoorJ37
import Derived.Test.YtihnaddfpmjpaaaGreatDoorJ2
import Derived.Test.YtihnaddfpmjpaaaGreatDoorJ18
namespace Go.Proofs.YtihnaddfpmjpaaaGreatDoor
namespace Gr
open Go.RowKit
def GV (w : World) (lo : Nat) (xs : List Value) (G : List GrpI) : Prop :=
  xs.length = G.length * 2 ∧ ∀ j (h : j < G.length), ∃ v, xs[j * 2]? = some v ∧ xs[j * 2 + 1]? = some (.int .i64 G[j].Z) ∧ InOwn w lo v G[j].M
theorem GV.kept {S : Nat → Prop} {w w' : World} {lo : Nat} {xs : List Value} {G : List GrpI} (h : GV w lo xs G) (hk : Kept S w w') (hS : ∀ k, S k → Alien w k 3) : GV w' lo xs G := by
  refine ⟨h.1, fun j hj => ?_⟩
  obtain ⟨v, h1, h2, h3⟩ := h.2 j hj
  exact ⟨v, h1, h2, hk.own_alien h3 hS⟩
theorem GV.snoc {w : World} {lo : Nat} {xs : List Value} {G : List GrpI} (h : GV w lo xs G) (v : Value) (q : GrpI) (hv : InOwn w lo v q.M) : GV w lo (xs ++ [v, .int .i64 q.Z]) (G ++ [q]) := by
  refine ⟨by simp [h.1]; omega, fun j hj => ?_⟩
  by_cases hjl : j < G.length
  · obtain ⟨u, h1, h2, h3⟩ := h.2 j hjl
    have e : (G ++ [q])[j] = G[j] := List.getElem_append_left hjl
    rw [e]
    refine ⟨u, ?_, ?_, h3⟩
    · rw [List.getElem?_append_left (by have := h.1; omega)]; exact h1
    · rw [List.getElem?_append_left (by have := h.1; omega)]; exact h2
  · have hjj : j = G.length := by simp at hj; omega
    subst hjj
    have e : (G ++ [q])[G.length] = q := by simp
    rw [e]
    refine ⟨v, ?_, ?_, hv⟩
    · rw [List.getElem?_append_right (by have := h.1; omega), h.1, Nat.sub_self]; rfl
    · rw [List.getElem?_append_right (by have := h.1; omega), h.1, show G.length * 2 + 1 - G.length * 2 = 1 by omega]; rfl
def CNew (w : World) (lo : Nat) (v : Value) (s : Int) (Q : List EdgeI) (M : List CoupleI) (Y : List Int) (G : List GrpI) : Prop :=
  ∃ v1 v2 v3 v4 xs, v = .agg #[.int .i64 s, v1, v2, v3, v4] ∧ w.ownsRow lo 106 5 v1 Q.length (edgesV Q) ∧ w.ownsRow lo 162 2 v2 M.length (couplesV M) ∧ w.ownsRow lo 3 1 v3 Y.length (intsV Y) ∧ w.ownsRow lo 164 2 v4 G.length xs ∧ GV w lo xs G
theorem CNew.zero (w : World) (lo : Nat) : CNew w lo (.agg #[.int .i64 0, .slice none 0 0, .slice none 0 0, .slice none 0 0, .slice none 0 0]) 0 [] [] [] [] :=
  ⟨_, _, _, _, [], rfl, World.ownsRow_nil _ _ _ _, World.ownsRow_nil _ _ _ _, World.ownsRow_nil _ _ _ _, World.ownsRow_nil _ _ _ _, rfl, fun _ hj => absurd hj (Nat.not_lt_zero _)⟩
theorem CNew.below {w w' : World} {lo : Nat} {v : Value} {s : Int} {Q : List EdgeI} {M : List CoupleI} {Y : List Int} {G : List GrpI} (h : CNew w lo v s Q M Y G) (hb : Below w.heap.size w w') : CNew w' lo v s Q M Y G := by
  obtain ⟨v1, v2, v3, v4, xs, rfl, h1, h2, h3, h4, h5⟩ := h
  refine ⟨v1, v2, v3, v4, xs, rfl, own_below h1 hb, own_below h2 hb, own_below h3 hb, own_below h4 hb, h5.1, fun j hj => ?_⟩
  obtain ⟨u, g1, g2, g3⟩ := h5.2 j hj
  exact ⟨u, g1, g2, g3.below hb⟩
theorem CNew.kept {S : Nat → Prop} {w w' : World} {lo : Nat} {v : Value} {s : Int} {Q : List EdgeI} {M : List CoupleI} {Y : List Int} {G : List GrpI} (h : CNew w lo v s Q M Y G) (hk : Kept S w w') (hS : ∀ k, S k → k < lo) : CNew w' lo v s Q M Y G := by
  obtain ⟨v1, v2, v3, v4, xs, rfl, h1, h2, h3, h4, h5⟩ := h
  have no : ∀ {e size n : Nat} {u : Value} {ys : List Value}, w.ownsRow lo e size u n ys → ∀ g, u.ownBlock = some g → ¬ S g := fun ho g hg hs => by
    have a := (ho.lt g hg).1
    have b := hS g hs
    omega
  refine ⟨v1, v2, v3, v4, xs, rfl, hk.own h1 (no h1), hk.own h2 (no h2), hk.own h3 (no h3), hk.own h4 (no h4), h5.1, fun j hj => ?_⟩
  obtain ⟨u, g1, g2, g3⟩ := h5.2 j hj
  exact ⟨u, g1, g2, g3.kept hk (no g3)⟩
def zeroC : Array Value := #[.int .i64 0, .slice none 0 0, .slice none 0 0, .slice none 0 0, .slice none 0 0]
theorem ty_ne : (159 : Nat) ≠ 106 ∧ (159 : Nat) ≠ 162 ∧ (159 : Nat) ≠ 3 ∧ (159 : Nat) ≠ 164 ∧ (159 : Nat) ≠ 134 ∧
    (134 : Nat) ≠ 106 ∧ (134 : Nat) ≠ 162 ∧ (134 : Nat) ≠ 3 ∧ (134 : Nat) ≠ 164 ∧ (106 : Nat) ≠ 162 ∧ (106 : Nat) ≠ 3 ∧ (106 : Nat) ≠ 164 ∧
    (162 : Nat) ≠ 3 ∧ (162 : Nat) ≠ 164 ∧ (3 : Nat) ≠ 164 := by decide
/-- What stands while a certificate is read: the result's variable, the reader, the certificate's variable, its rows. -/
structure RS (w wr : World) (t : ByteArray) (c : CS) (s : Int) (v1 v2 v3 v4 : Value) (Q : List EdgeI) (M : List CoupleI) (Y : List Int) (G : List GrpI) : Prop where
  below : Below w.heap.size w wr
  res : Blk wr w.heap.size zeroC 134
  cur : CuAt wr (w.heap.size + 1) t c
  box : Blk wr (w.heap.size + 1 + 1) #[.int .i64 s, v1, v2, v3, v4] 134
  edges : wr.ownsRow (w.heap.size + 3) 106 5 v1 Q.length (edgesV Q)
  couples : wr.ownsRow (w.heap.size + 3) 162 2 v2 M.length (couplesV M)
  ints : wr.ownsRow (w.heap.size + 3) 3 1 v3 Y.length (intsV Y)
  groups : ∃ xs, wr.ownsRow (w.heap.size + 3) 164 2 v4 G.length xs ∧ GV wr (w.heap.size + 3) xs G
theorem RS.rd {w wr W : World} {t : ByteArray} {c c' : CS} {s : Int} {v1 v2 v3 v4 : Value} {Q : List EdgeI} {M : List CoupleI} {Y : List Int} {G : List GrpI} (h : RS w wr t c s v1 v2 v3 v4 Q M Y G)
    (hk : Kept (fun k => k = w.heap.size + 1) wr W) (hc : CuAt W (w.heap.size + 1) t c') : RS w W t c' s v1 v2 v3 v4 Q M Y G := by
  obtain ⟨t1, t2, t3, t4, t5, _⟩ := ty_ne
  have al : ∀ e : TypeId, (159 : Nat) ≠ e → ∀ k, k = w.heap.size + 1 → Alien wr k e := fun e he k hk => by subst hk; exact h.cur.1.alien he
  obtain ⟨xs, g1, g2⟩ := h.groups
  exact ⟨h.below.trans (hk.below h.below.size (fun i hi => by omega)), h.res.kept_alien hk (al _ t5), hc, h.box.kept_alien hk (al _ t5), hk.own_alien h.edges (al _ t1), hk.own_alien h.couples (al _ t2), hk.own_alien h.ints (al _ t3), xs, hk.own_alien g1 (al _ t4), g2.kept hk (al _ t3)⟩
theorem RS.edge {w W w1 : World} {t : ByteArray} {c : CS} {s : Int} {v1 v2 v3 v4 v' : Value} {Q : List EdgeI} {M : List CoupleI} {Y : List Int} {G : List GrpI} (h : RS w W t c s v1 v2 v3 v4 Q M Y G) (x : EdgeI)
    (hk : Kept (fun k => v1.ownBlock = some k) W w1) (ho : w1.ownsRow (w.heap.size + 3) 106 5 v' (Q.length + 1) (edgesV Q ++ [.int .i64 x.A, .int .i64 x.B, .int .i64 x.W1, .int .i64 x.W2, .int .i64 x.W3])) :
    RS w (w1.setCell ⟨w.heap.size + 1 + 1, 1, none⟩ v') t c s v' v2 v3 v4 (Q ++ [x]) M Y G := by
  obtain ⟨t1, t2, t3, t4, t5, t6, t7, t8, t9, t10, t11, t12, t13, t14, t15⟩ := ty_ne
  obtain ⟨xs, g1, g2⟩ := h.groups
  have al := fun (e : TypeId) (he : (106 : Nat) ≠ e) => own_alien h.edges he
  have b1 := h.box.kept_alien hk (al _ t6.symm)
  have k2 : Kept (fun i => i = w.heap.size + 1 + 1) w1 (w1.setCell ⟨w.heap.size + 1 + 1, 1, none⟩ v') := Kept.set _ _ _ _ rfl
  have al2 : ∀ e : TypeId, (134 : Nat) ≠ e → ∀ k, k = w.heap.size + 1 + 1 → Alien w1 k e := fun e he k hk => by subst hk; exact b1.alien he
  rw [← edgesV_snoc] at ho
  have ho' : w1.ownsRow (w.heap.size + 3) 106 5 v' (Q ++ [x]).length (edgesV (Q ++ [x])) := by rw [List.length_append]; exact ho
  exact ⟨(h.below.trans (hk.below h.below.size (fun i hi => by have := (h.edges.lt i hi).1; omega))).trans (k2.below (by have := h.below.size; have := hk.2.2.2.1; omega) (fun i hi => by omega)),
    (h.res.kept_alien hk (al _ t6.symm)).kept k2 (by omega), ⟨(h.cur.1.kept_alien hk (al _ t1.symm)).kept k2 (by omega), h.cur.2⟩, b1.set 1 v', k2.own_alien ho' (al2 _ t6), k2.own_alien (hk.own_alien h.couples (al _ t10)) (al2 _ t7), k2.own_alien (hk.own_alien h.ints (al _ t11)) (al2 _ t8), xs, k2.own_alien (hk.own_alien g1 (al _ t12)) (al2 _ t9), (g2.kept hk (al _ t11)).kept k2 (al2 _ t8)⟩
theorem RS.couple {w W w1 : World} {t : ByteArray} {c : CS} {s : Int} {v1 v2 v3 v4 v' : Value} {Q : List EdgeI} {M : List CoupleI} {Y : List Int} {G : List GrpI} (h : RS w W t c s v1 v2 v3 v4 Q M Y G) (x : CoupleI)
    (hk : Kept (fun k => v2.ownBlock = some k) W w1) (ho : w1.ownsRow (w.heap.size + 3) 162 2 v' (M.length + 1) (couplesV M ++ [.int .i64 x.A, .int .i64 x.B])) :
    RS w (w1.setCell ⟨w.heap.size + 1 + 1, 2, none⟩ v') t c s v1 v' v3 v4 Q (M ++ [x]) Y G := by
  obtain ⟨t1, t2, t3, t4, t5, t6, t7, t8, t9, t10, t11, t12, t13, t14, t15⟩ := ty_ne
  obtain ⟨xs, g1, g2⟩ := h.groups
  have al := fun (e : TypeId) (he : (162 : Nat) ≠ e) => own_alien h.couples he
  have b1 := h.box.kept_alien hk (al _ t7.symm)
  have k2 : Kept (fun i => i = w.heap.size + 1 + 1) w1 (w1.setCell ⟨w.heap.size + 1 + 1, 2, none⟩ v') := Kept.set _ _ _ _ rfl
  have al2 : ∀ e : TypeId, (134 : Nat) ≠ e → ∀ k, k = w.heap.size + 1 + 1 → Alien w1 k e := fun e he k hk => by subst hk; exact b1.alien he
  rw [← couplesV_snoc] at ho
  have ho' : w1.ownsRow (w.heap.size + 3) 162 2 v' (M ++ [x]).length (couplesV (M ++ [x])) := by rw [List.length_append]; exact ho
  exact ⟨(h.below.trans (hk.below h.below.size (fun i hi => by have := (h.couples.lt i hi).1; omega))).trans (k2.below (by have := h.below.size; have := hk.2.2.2.1; omega) (fun i hi => by omega)),
    (h.res.kept_alien hk (al _ t7.symm)).kept k2 (by omega), ⟨(h.cur.1.kept_alien hk (al _ t2.symm)).kept k2 (by omega), h.cur.2⟩, b1.set 2 v', k2.own_alien (hk.own_alien h.edges (al _ t10.symm)) (al2 _ t6), k2.own_alien ho' (al2 _ t7), k2.own_alien (hk.own_alien h.ints (al _ t13)) (al2 _ t8), xs, k2.own_alien (hk.own_alien g1 (al _ t14)) (al2 _ t9), (g2.kept hk (al _ t13)).kept k2 (al2 _ t8)⟩
theorem RS.group {w W w1 : World} {t : ByteArray} {c : CS} {s : Int} {v1 v2 v3 v4 v' vm : Value} {Q : List EdgeI} {M : List CoupleI} {Y : List Int} {G : List GrpI} (q : GrpI) {xs : List Value} (h : RS w W t c s v1 v2 v3 v4 Q M Y G) (g1 : W.ownsRow (w.heap.size + 3) 164 2 v4 G.length xs) (g2 : GV W (w.heap.size + 3) xs G)
    (hk : Kept (fun k => v4.ownBlock = some k) W w1) (ho : w1.ownsRow (w.heap.size + 3) 164 2 v' (G.length + 1) (xs ++ [vm, .int .i64 q.Z])) (hv : InOwn W (w.heap.size + 3) vm q.M) :
    RS w (w1.setCell ⟨w.heap.size + 1 + 1, 4, none⟩ v') t c s v1 v2 v3 v' Q M Y (G ++ [q]) := by
  obtain ⟨t1, t2, t3, t4, t5, t6, t7, t8, t9, t10, t11, t12, t13, t14, t15⟩ := ty_ne
  have al := fun (e : TypeId) (he : (164 : Nat) ≠ e) => own_alien g1 he
  have b1 := h.box.kept_alien hk (al _ t9.symm)
  have k2 : Kept (fun i => i = w.heap.size + 1 + 1) w1 (w1.setCell ⟨w.heap.size + 1 + 1, 4, none⟩ v') := Kept.set _ _ _ _ rfl
  have al2 : ∀ e : TypeId, (134 : Nat) ≠ e → ∀ k, k = w.heap.size + 1 + 1 → Alien w1 k e := fun e he k hk => by subst hk; exact b1.alien he
  have ho' : w1.ownsRow (w.heap.size + 3) 164 2 v' (G ++ [q]).length (xs ++ [vm, .int .i64 q.Z]) := by rw [List.length_append]; exact ho
  exact ⟨(h.below.trans (hk.below h.below.size (fun i hi => by have := (g1.lt i hi).1; omega))).trans (k2.below (by have := h.below.size; have := hk.2.2.2.1; omega) (fun i hi => by omega)),
    (h.res.kept_alien hk (al _ t9.symm)).kept k2 (by omega), ⟨(h.cur.1.kept_alien hk (al _ t4.symm)).kept k2 (by omega), h.cur.2⟩, b1.set 4 v', k2.own_alien (hk.own_alien h.edges (al _ t12.symm)) (al2 _ t6), k2.own_alien (hk.own_alien h.couples (al _ t14.symm)) (al2 _ t7), k2.own_alien (hk.own_alien h.ints (al _ t15.symm)) (al2 _ t8), _, k2.own_alien ho' (al2 _ t9), ((g2.snoc vm q hv).kept hk (al _ t15.symm)).kept k2 (al2 _ t8)⟩
theorem RS.int {w W w1 : World} {t : ByteArray} {c : CS} {s : Int} {v1 v2 v3 v4 v' : Value} {Q : List EdgeI} {M : List CoupleI} {Y : List Int} (h : RS w W t c s v1 v2 v3 v4 Q M Y []) (x : Int)
    (hk : Kept (fun k => v3.ownBlock = some k) W w1) (ho : w1.ownsRow (w.heap.size + 3) 3 1 v' (Y.length + 1) (intsV Y ++ [.int .i64 x])) :
    RS w (w1.setCell ⟨w.heap.size + 1 + 1, 3, none⟩ v') t c s v1 v2 v' v4 Q M (Y ++ [x]) [] := by
  obtain ⟨t1, t2, t3, t4, t5, t6, t7, t8, t9, t10, t11, t12, t13, t14, t15⟩ := ty_ne
  obtain ⟨xs, g1, g2⟩ := h.groups
  have al := fun (e : TypeId) (he : (3 : Nat) ≠ e) => own_alien h.ints he
  have b1 := h.box.kept_alien hk (al _ t8.symm)
  have k2 : Kept (fun i => i = w.heap.size + 1 + 1) w1 (w1.setCell ⟨w.heap.size + 1 + 1, 3, none⟩ v') := Kept.set _ _ _ _ rfl
  have al2 : ∀ e : TypeId, (134 : Nat) ≠ e → ∀ k, k = w.heap.size + 1 + 1 → Alien w1 k e := fun e he k hk => by subst hk; exact b1.alien he
  have ho' : w1.ownsRow (w.heap.size + 3) 3 1 v' (Y ++ [x]).length (intsV (Y ++ [x])) := by rw [List.length_append, intsV, List.map_append]; exact ho
  exact ⟨(h.below.trans (hk.below h.below.size (fun i hi => by have := (h.ints.lt i hi).1; omega))).trans (k2.below (by have := h.below.size; have := hk.2.2.2.1; omega) (fun i hi => by omega)),
    (h.res.kept_alien hk (al _ t8.symm)).kept k2 (by omega), ⟨(h.cur.1.kept_alien hk (al _ t3.symm)).kept k2 (by omega), h.cur.2⟩, b1.set 3 v', k2.own_alien (hk.own_alien h.edges (al _ t11.symm)) (al2 _ t6), k2.own_alien (hk.own_alien h.couples (al _ t13.symm)) (al2 _ t7), k2.own_alien ho' (al2 _ t8), xs, k2.own_alien (hk.own_alien g1 (al _ t15)) (al2 _ t9), ⟨g2.1, fun j hj => absurd hj (Nat.not_lt_zero _)⟩⟩
theorem RS.keptNew {w wr W : World} {t : ByteArray} {c : CS} {s : Int} {v1 v2 v3 v4 : Value} {Q : List EdgeI} {M : List CoupleI} {Y : List Int} {G : List GrpI} (h : RS w wr t c s v1 v2 v3 v4 Q M Y G) (hk : Kept (fun k => k = w.heap.size) wr W) : CNew W (w.heap.size + 3) (.agg #[.int .i64 s, v1, v2, v3, v4]) s Q M Y G := by
  obtain ⟨xs, g1, g2⟩ := h.groups
  have h0 : CNew wr (w.heap.size + 3) (.agg #[.int .i64 s, v1, v2, v3, v4]) s Q M Y G := ⟨v1, v2, v3, v4, xs, rfl, h.edges, h.couples, h.ints, g1, g2⟩
  exact h0.kept hk (fun k e => by omega)
end Gr
end Go.Proofs.YtihnaddfpmjpaaaGreatDoor
