/-
  The contract of spec.l03Copy: a copy that owns its rows.
-/
import Derived.Test.YtfbfafpfhgjdfaaDisk
import Derived.Test.YtfbfafpfhgjdfaaDevCopyImpl
import Derived.Laws.OwnMore
namespace Go.Proofs.Ytfbfafpfhgjdfaa
open Go.RowKit

/-- append of a whole row that is owned (nil or not), as one step of a region that draws. -/
theorem step_append_row {P : Program} (w : World) {ops : Array Oper} {o : Oper} {a : Act} {K : Act → World → Prop} {Q : Exit → Act → World → Prop} {E : Prop} (hgd : o.guard = none) (s x : Operand) (t : TypeId)
    (ho : o.op = .call { callee := .builtin .append, args := #[s, x], argTypes := #[t, t] })
    (base : Nat) (e : TypeId) (i : TypeInfo) (z : Value) (size bytes : Nat) (ht : P.underlying t = some (.slice e)) (hi : P.info? e = some i) (hz : i.zero = some z)
    (hsize : i.size = size) (hby : i.bytes = bytes) (hzs : z.cells.size = size) (hsz : 0 < size)
    (v : Value) (n : Nat) (xs : List Value) (hs : a.eval s = v) (hown : w.ownsRow base e size v n xs)
    (u : Value) (m base' : Nat) (news : List Value) (hx : a.eval x = u) (hsrc : w.ownsRow base' e size u m news) (h1 : ∀ u ∈ news, u.oneCell' = true)
    (h63 : n + m ≤ maxLen) (hbytes : (n + m) * bytes ≤ 140737488355328) (hbase : base ≤ w.heap.size)
    (h : ∀ v' w', w'.ownsRow base e size v' (n + m) (xs ++ news) → w.grownBy w' v.ownBlock → (v'.ownBlock = v.ownBlock ∨ v'.ownBlock = some w.heap.size) → K (a.put o.dst v') w') :
    if Region.wanted o (yielded ops a.tmps) = true then Oper.wp P o a w K Q else E := by
  have hw : Region.wanted o (yielded ops a.tmps) = true := by simp [Region.wanted, hgd]
  rw [if_pos hw]
  have hcell := hsrc
  obtain ⟨hl, hsrc⟩ := hsrc
  rcases hsrc with ⟨rfl, rfl⟩ | ⟨g, cap, cur, rfl, _⟩
  · have e0 : news = [] := List.length_eq_zero_iff.1 (by rw [hl]; simp)
    subst e0
    have hrun := run_append_owned_none (P := P) (w := w) base t o.type e i size ht hi v n xs hown
    unfold Oper.wp execOp
    simp only [ho, resolve, invoke, builtin, Sem.run_bind, Sem.run_pure, Result.andThen_ok, List.map_toArray, List.map_cons, List.map_nil, hs, hx, hrun]
    exact h v w (by simpa using hown) ⟨rfl, rfl, rfl, Nat.le_refl _, fun _ _ _ => rfl⟩ (.inl rfl)
  · obtain ⟨v', w', hr, h2, h3, _, h5⟩ := run_append_own_at (P := P) w base t o.type e i z size bytes ht hi hz hsize hby hzs hsz v n xs hown ⟨g, 0, none⟩ m cap news hl (fun j y hy => by
      have hj : j < m * size := by
        rcases Nat.lt_or_ge j news.length with hj | hj
        · omega
        · rw [List.getElem?_eq_none hj] at hy; cases hy
      have := hcell.cellAt j hj
      rw [Addr.add_lit, Nat.zero_add, this]
      exact hy) h1 h63 hbytes hbase
    unfold Oper.wp execOp
    simp only [ho, resolve, invoke, builtin, Sem.run_bind, Sem.run_pure, Result.andThen_ok, List.map_toArray, List.map_cons, List.map_nil, hs, hx, hr]
    exact h v' w' h2 h3 h5

theorem grown_undrew {w w' : World} {row : Option Nat} (h : w.drew.grownBy w' row) : w.grownBy w' row := ⟨h.os, h.tape, h.output, h.size, h.block⟩

theorem puts_one (Q : List (Int × ByteArray)) : ∀ u ∈ putsV Q, u.oneCell' = true := fun u hu => by
  unfold putsV at hu
  rw [List.mem_flatMap] at hu
  obtain ⟨q, _, hq⟩ := hu
  simp at hq
  rcases hq with rfl | rfl <;> rfl

set_option maxRecDepth 100000 in
set_option maxHeartbeats 2000000 in
theorem specCopy_any (v : Value) (B : Nat) (L : List ByteArray) (Q : List (Int × ByteArray)) (h1 : L.length ≤ 1048576) (h2 : Q.length ≤ 1048576) (w : World) (hv : DevOwn w B v L Q) :
    Calls Try.prog 78 #[v] w fun e w' => (∃ d, e = .returned d ∧ DevOwn w' w.heap.size d L Q) ∧ Below w.heap.size w w' := by
  obtain ⟨i0, hi0, hz0, hz1, hz2⟩ := info_parts info9
  obtain ⟨i1, hi1, hy0, hy1, hy2⟩ := info_parts infoPut
  have hblk := hv.blk
  obtain ⟨v0, v1, rfl, ho0, ho1, _⟩ := hv
  obtain ⟨A0, C0, rfl, _⟩ := StrsAt.of_own ho0
  obtain ⟨A1, C1, rfl, _⟩ := PutsAt.of_own ho1
  obtain ⟨n, hn⟩ : ∃ n, n = L.length := ⟨_, rfl⟩
  obtain ⟨n', hn'⟩ : ∃ n, n = Q.length := ⟨_, rfl⟩
  have HN := hide hn
  have HN' := hide hn'
  rw [← hn] at h1 ho0 hblk ⊢
  rw [← hn'] at h2 ho1 hblk ⊢
  have HBL := hide hblk
  have HO0 := hide ho0
  have HO1 := hide ho1
  clear hn hn' hblk ho0 ho1
  go_enter Try.func78, Try.ntmps78
  go_wp2_with fail
  obtain ⟨W2, hW2⟩ : ∃ W, W = (w.alloc (Obj.cells #[Value.slice A0 n C0, Value.slice A1 n' C1] 27)).alloc (Obj.cells #[Value.slice none 0 0, Value.slice none 0 0] 27) := ⟨_, rfl⟩
  rw [← hW2]
  have hb2 : Below w.heap.size w W2 := by rw [hW2]; exact ((Below.refl _ _).alloc (Nat.le_refl _) _).alloc (by simp) _
  have hs2 : W2.heap.size = w.heap.size + 2 := by rw [hW2]; simp
  have HX2 : Hid (Box W2 w.heap.size (Value.slice A0 n C0) (Value.slice A1 n' C1)) := by show Box _ _ _ _; rw [hW2]; exact (Box.new _ _ _).below (below_new _ _)
  have HR2 : Hid (Box W2 (w.heap.size + 1) (Value.slice none 0 0) (Value.slice none 0 0)) := by
    show Box _ _ _ _
    have h := Box.new (w.alloc (Obj.cells #[Value.slice A0 n C0, Value.slice A1 n' C1] 27)) (Value.slice none 0 0) (Value.slice none 0 0)
    rw [hW2]
    simpa using h
  have HS0 := hide (own_below (unhide HO0) hb2)
  have HS1 := hide (own_below (unhide HO1) hb2)
  clear hW2 HO0 HO1
  obtain ⟨x0, x1⟩ := (unhide HX2).cells
  have hk0 : w.heap.size < W2.heap.size := by omega
  have hs2a : W2.heap.size ≤ w.heap.size + 2 := Nat.le_of_eq hs2
  have hs2b : w.heap.size + 2 ≤ W2.heap.size := Nat.le_of_eq hs2.symm
  clear hs2
  have hm1 : 0 + n ≤ maxLen := by unfold maxLen; omega
  have hm2 : 0 + n' ≤ maxLen := by unfold maxLen; omega
  go_region_held3 (fun u => u.cell? ⟨w.heap.size, 0, none⟩ = some (Value.slice A0 n C0) ∧ u.cell? ⟨w.heap.size, 1, none⟩ = some (Value.slice A1 n' C1))
    (first | go_keep | exact c2 | exact c1 | exact ((unhide HX1).below (below_new w1 _)).cells)
    (first
      | (refine step_append_row _ (by rfl) _ _ _ (by rfl) (w.heap.size + 2) 9 i0 _ 1 16 Try.underlying24 hi0 hz0 hz1 hz2 rfl (by omega) (.slice (some ⟨W2.heap.size, 0, none⟩) 0 0) 0 [] (by rfl) (by first | exact ((World.ownsRow_made W2 #[] 0 (by omega) (Nat.zero_le _) rfl).alloc (Obj.cells #[] 66)).drew | exact (World.ownsRow_made W2 #[] 0 (by omega) (Nat.zero_le _) rfl).alloc (Obj.cells #[] 66)) (Value.slice A0 n C0) n B (strsV L) (by rfl) (by first | exact (((unhide HS0).alloc (Obj.cells #[] 9)).alloc (Obj.cells #[] 66)).drew | exact (((unhide HS0).alloc (Obj.cells #[] 9)).alloc (Obj.cells #[] 66))) (strs_one L) hm1 (by omega) (by first | omega | (simp <;> omega)) ?_; intro v6 w1 hown1 hgrow1 hat1; simp only [Nat.zero_add, List.nil_append, Value.ownBlock] at hown1 hgrow1 hat1; have hgrow1 : ((W2.alloc (Obj.cells #[] 9)).alloc (Obj.cells #[] 66)).grownBy w1 (some (W2.heap.size)) := (by first | exact hgrow1 | exact grown_undrew hgrow1); obtain ⟨A6, C6, rfl, _⟩ := StrsAt.of_own hown1; have hr6 := hown1.lt; have HA1 := hide hown1; have HBE1 : Hid (Below W2.heap.size W2 w1) := (((Below.refl _ W2).alloc (Nat.le_refl _) (Obj.cells #[] 9)).alloc (by simp) (Obj.cells #[] 66)).grown hgrow1 (by first | omega | (simp <;> omega)) (fun k hk => by simp at hk <;> omega); have HQ1 : Hid (w1.ownsRow B 66 2 (Value.slice A1 n' C1) n' (putsV Q)) := own_below (unhide HS1) (unhide HBE1); have HX1 := hide ((unhide HX2).below (unhide HBE1)); have HR1 := hide ((unhide HR2).below (unhide HBE1)); have c1 := (unhide HX1).cells; have hz1' : W2.heap.size ≤ w1.heap.size := (unhide HBE1).size; have HTB : Hid (w1.ownsRow (w.heap.size + 2) 66 2 (.slice (some ⟨W2.heap.size + 1, 0, none⟩) 0 0) 0 []) := (Kept.of_grown hgrow1).own (by have h := World.ownsRow_made (base := w.heap.size + 2) (e := 66) (size := 2) (W2.alloc (Obj.cells #[] 9)) #[] 0 (by first | omega | (simp <;> omega)) (Nat.zero_le _) rfl; simpa using h) (fun k hk e => by simp [Value.ownBlock] at hk e; omega); have hna : ∀ k, (Value.slice A6 n C6).ownBlock = some k → k ≠ W2.heap.size + 1 := (fun k hk e => by simp only [Value.ownBlock] at hk; rw [hk] at hat1; simp at hat1; omega))
      | (refine step_append_row _ (by rfl) _ _ _ (by rfl) (w.heap.size + 2) 9 i0 _ 1 16 Try.underlying24 hi0 hz0 hz1 hz2 rfl (by omega) (.slice (some ⟨W2.heap.size, 0, none⟩) 0 0) 0 [] (by rfl) (by first | exact (World.ownsRow_made W2 #[] 0 (by omega) (Nat.zero_le _) rfl).drew | exact (World.ownsRow_made W2 #[] 0 (by omega) (Nat.zero_le _) rfl)) (Value.slice A0 n C0) n B (strsV L) (by rfl) (by first | exact ((unhide HS0).alloc (Obj.cells #[] 9)).drew | exact ((unhide HS0).alloc (Obj.cells #[] 9))) (strs_one L) hm1 (by omega) (by first | omega | (simp <;> omega)) ?_; intro v6 w1 hown1 hgrow1 hat1; simp only [Nat.zero_add, List.nil_append, Value.ownBlock] at hown1 hgrow1 hat1; have hgrow1 : (W2.alloc (Obj.cells #[] 9)).grownBy w1 (some (W2.heap.size)) := (by first | exact hgrow1 | exact grown_undrew hgrow1); obtain ⟨A6, C6, rfl, _⟩ := StrsAt.of_own hown1; have hr6 := hown1.lt; have HA1 := hide hown1; have HBE1 : Hid (Below W2.heap.size W2 w1) := ((Below.refl _ W2).alloc (Nat.le_refl _) (Obj.cells #[] 9)).grown hgrow1 (by first | omega | (simp <;> omega)) (fun k hk => by simp at hk <;> omega); have HQ1 : Hid (w1.ownsRow B 66 2 (Value.slice A1 n' C1) n' (putsV Q)) := own_below (unhide HS1) (unhide HBE1); have HX1 := hide ((unhide HX2).below (unhide HBE1)); have HR1 := hide ((unhide HR2).below (unhide HBE1)); have c1 := (unhide HX1).cells; have hz1' : W2.heap.size ≤ w1.heap.size := (unhide HBE1).size; have hna : True := trivial)
      | (refine step_append_row _ (by rfl) _ _ _ (by rfl) (w.heap.size + 2) 9 i0 _ 1 16 Try.underlying24 hi0 hz0 hz1 hz2 rfl (by omega) (.slice (some ⟨W2.heap.size + 1, 0, none⟩) 0 0) 0 [] (by rfl) (by have h := World.ownsRow_made (base := w.heap.size + 2) (e := 9) (size := 1) (W2.alloc (Obj.cells #[] 66)) #[] 0 (by first | omega | (simp <;> omega)) (Nat.zero_le _) rfl; simp only [World.size_alloc] at h; first | exact h.drew | exact h) (Value.slice A0 n C0) n B (strsV L) (by rfl) (by first | exact (((unhide HS0).alloc (Obj.cells #[] 66)).alloc (Obj.cells #[] 9)).drew | exact (((unhide HS0).alloc (Obj.cells #[] 66)).alloc (Obj.cells #[] 9))) (strs_one L) hm1 (by omega) (by first | omega | (simp <;> omega)) ?_; intro v6 w1 hown1 hgrow1 hat1; simp only [Nat.zero_add, List.nil_append, Value.ownBlock] at hown1 hgrow1 hat1; have hgrow1 : ((W2.alloc (Obj.cells #[] 66)).alloc (Obj.cells #[] 9)).grownBy w1 (some (W2.heap.size + 1)) := (by first | exact hgrow1 | exact grown_undrew hgrow1); obtain ⟨A6, C6, rfl, _⟩ := StrsAt.of_own hown1; have hr6 := hown1.lt; have HA1 := hide hown1; have HBE1 : Hid (Below W2.heap.size W2 w1) := (((Below.refl _ W2).alloc (Nat.le_refl _) (Obj.cells #[] 66)).alloc (by simp) (Obj.cells #[] 9)).grown hgrow1 (by first | omega | (simp <;> omega)) (fun k hk => by simp at hk <;> omega); have HQ1 : Hid (w1.ownsRow B 66 2 (Value.slice A1 n' C1) n' (putsV Q)) := own_below (unhide HS1) (unhide HBE1); have HX1 := hide ((unhide HX2).below (unhide HBE1)); have HR1 := hide ((unhide HR2).below (unhide HBE1)); have c1 := (unhide HX1).cells; have hz1' : W2.heap.size ≤ w1.heap.size := (unhide HBE1).size; have HTB : Hid (w1.ownsRow (w.heap.size + 2) 66 2 (.slice (some ⟨W2.heap.size, 0, none⟩) 0 0) 0 []) := (Kept.of_grown hgrow1).own ((World.ownsRow_made W2 #[] 0 (by omega) (Nat.zero_le _) rfl).alloc (Obj.cells #[] 9)) (fun k hk e => by simp [Value.ownBlock] at hk e; omega); have hna : ∀ k, (Value.slice A6 n C6).ownBlock = some k → k ≠ W2.heap.size := (fun k hk e => by simp only [Value.ownBlock] at hk; rw [hk] at hat1; simp at hat1; omega))
      | (refine step_append_row _ (by rfl) _ _ _ (by rfl) (w.heap.size + 2) 66 i1 _ 2 24 Try.underlying25 hi1 hy0 hy1 hy2 rfl (by omega) _ 0 [] (by rfl) (unhide HTB) (Value.slice A1 n' C1) n' B (putsV Q) (by rfl) (unhide HQ1) (puts_one Q) hm2 (by omega) (by first | omega | (simp <;> omega)) ?_; intro v7 w2 hown2 hgrow2 hat2; simp only [Nat.zero_add, List.nil_append, Value.ownBlock] at hown2 hgrow2 hat2; obtain ⟨A7, C7, rfl, _⟩ := PutsAt.of_own hown2; have HA2 := hide hown2; have HS3 := hide ((Kept.of_grown hgrow2).own (unhide HA1) (fun k hk e => hna k hk (by simp at e; omega))); have HBE2 : Hid (Below W2.heap.size W2 w2) := (unhide HBE1).grown hgrow2 hz1' (fun k hk => by simp at hk <;> omega); have HX3 := hide ((unhide HX2).below (unhide HBE2)); have HR3 := hide ((unhide HR2).below (unhide HBE2)); have c2 := (unhide HX3).cells; have q0 := (unhide HR3).cells.1; have q1 := (unhide HR3).cells.2; have f0 := (unhide HR3).froz 0; have f1 := (unhide HR3).froz 1; have HNE : Hid ((Value.slice A6 n C6).ownBlock ≠ (Value.slice A7 n' C7).ownBlock) := (fun e => by rcases hat2 with h | h <;> (simp only [Value.ownBlock] at e; rw [h] at e; first | exact hna _ e rfl | (have := hr6 _ e; omega))))
      | (refine step_append_row _ (by rfl) _ _ _ (by rfl) (w.heap.size + 2) 66 i1 _ 2 24 Try.underlying25 hi1 hy0 hy1 hy2 rfl (by omega) (.slice (some ⟨w1.heap.size, 0, none⟩) 0 0) 0 [] (by rfl) (by first | exact (World.ownsRow_made w1 #[] 0 (by omega) (Nat.zero_le _) rfl) | exact (World.ownsRow_made w1 #[] 0 (by omega) (Nat.zero_le _) rfl).drew) (Value.slice A1 n' C1) n' B (putsV Q) (by rfl) (by first | exact ((unhide HQ1).alloc (Obj.cells #[] 66)) | exact ((unhide HQ1).alloc (Obj.cells #[] 66)).drew) (puts_one Q) hm2 (by omega) (by first | omega | (simp <;> omega)) ?_; intro v7 w2 hown2 hgrow2 hat2; simp only [Nat.zero_add, List.nil_append, Value.ownBlock] at hown2 hgrow2 hat2; have hgrow2 : (w1.alloc (Obj.cells #[] 66)).grownBy w2 (some w1.heap.size) := (by first | exact hgrow2 | exact grown_undrew hgrow2); obtain ⟨A7, C7, rfl, _⟩ := PutsAt.of_own hown2; have HA2 := hide hown2; have HS3 := hide ((Kept.of_grown hgrow2).own ((unhide HA1).alloc (Obj.cells #[] 66)) (fun k hk e => by have h := hr6 k hk; simp at e; omega)); have HBE2 : Hid (Below W2.heap.size W2 w2) := ((unhide HBE1).alloc hz1' (Obj.cells #[] 66)).grown hgrow2 (by first | omega | (simp <;> omega)) (fun k hk => by simp at hk <;> omega); have HX3 := hide ((unhide HX2).below (unhide HBE2)); have HR3 := hide ((unhide HR2).below (unhide HBE2)); have c2 := (unhide HX3).cells; have q0 := (unhide HR3).cells.1; have q1 := (unhide HR3).cells.2; have f0 := (unhide HR3).froz 0; have f1 := (unhide HR3).froz 1; have HNE : Hid ((Value.slice A6 n C6).ownBlock ≠ (Value.slice A7 n' C7).ownBlock) := (fun e => by rcases hat2 with h | h <;> (simp only [Value.ownBlock] at e; rw [h] at e; have h9 := hr6 _ e; first | omega | (simp at h9 <;> omega)))))
  all_goals
    have hbe := unhide HBE2
    obtain ⟨W3, hW3⟩ : ∃ W, W = w2 := ⟨_, rfl⟩
    rw [← hW3] at HS3 HA2 HR3 hbe q0 q1 f0 f1 ⊢
    have hr7 := (unhide HA2).lt
    have HC3 := hide (hb2.trans (hbe.mono (by omega)))
    have HLT := hide hr6
    have HLT7 := hide hr7
    clear hW3 hr6 hr7 hbe c1 c2 x0 x1 hat1 hat2 hgrow1 hgrow2 hown1 hown2 q0 q1 f0 f1
    go_wp2
    (try simp only [Exit.inBlock, Exit.then])
    refine bodyPost_ret (results_cell_row Try.results78 _ _ (w.heap.size + 1) _ _ _ _ rfl ((unhide HR3).two _ _) Try.underlying27 rfl (by kernel_rfl)) rfl ?_
    have hne0 : (Value.slice A6 n C6).ownBlock ≠ some (w.heap.size + 1) := fun e => by have := unhide HLT _ e; omega
    have hne1 : (Value.slice A7 n' C7).ownBlock ≠ some (w.heap.size + 1) := fun e => by have := unhide HLT7 _ e; omega
    refine ⟨⟨_, rfl, _, _, rfl, ?_, ?_, .inl (unhide HNE)⟩, ((unhide HC3).setCell (p := ⟨w.heap.size + 1, 0, none⟩) (by simp) _).setCell (p := ⟨w.heap.size + 1, 1, none⟩) (by simp) _⟩
    · rw [← unhide HN]
      exact own_lower (by omega) (ownsRow_setCell_other (a := ⟨w.heap.size + 1, 1, none⟩) (ownsRow_setCell_other (a := ⟨w.heap.size + 1, 0, none⟩) (unhide HS3) hne0 _) hne0 _)
    · rw [← unhide HN']
      exact own_lower (by omega) (ownsRow_setCell_other (a := ⟨w.heap.size + 1, 1, none⟩) (ownsRow_setCell_other (a := ⟨w.heap.size + 1, 0, none⟩) (unhide HA2) hne1 _) hne1 _)
end Go.Proofs.Ytfbfafpfhgjdfaa
