/-
 CyA3.
-/
import Derived.Test.YtihnaddfpmjpaaaGreatDoorJ45
import Derived.Test.YtihnaddfpmjpaaaGreatDoorJ3
import Derived.Test.YtihnaddfpmjpaaaGreatDoorJ43
import Derived.Laws.AppendOwnNone
namespace Go.Proofs.YtihnaddfpmjpaaaGreatDoor
namespace Cy
open Go.RowKit
open Rg
open Gr (EdgeI AskI asksV InAt InOwn intsV own_below own_lower below_new Kept GrOwn Blk edgesAt PaAt pasize pasize_le AksOwn)
theorem wpList_append_rows {P : Program} (w : World) {ops : Array Oper} {rest : List Oper} {o : Oper} {a : Act} {Q : Exit → Act → World → Prop} (hgd : o.guard = none) (s x : Operand) (t : TypeId)
    (ho : o.op = .call { callee := .builtin .append, args := #[s, x], argTypes := #[t, t] })
    (base : Nat) (e : TypeId) (i : TypeInfo) (z : Value) (size bytes : Nat) (ht : P.underlying t = some (.slice e)) (hi : P.info? e = some i) (hz : i.zero = some z)
    (hsize : i.size = size) (hby : i.bytes = bytes) (hzs : z.cells.size = size) (hsz : 0 < size)
    (v : Value) (n : Nat) (xs : List Value) (hs : a.eval s = v) (hown : w.ownsRow base e size v n xs)
    (v2 : Value) (B2 m : Nat) (news : List Value) (hx : a.eval x = v2) (h2 : w.ownsRow B2 e size v2 m news) (h1 : ∀ u ∈ news, u.oneCell' = true)
    (h63 : n + m ≤ maxLen) (hbytes : (n + m) * bytes ≤ 140737488355328) (hbase : base ≤ w.heap.size)
    (h : ∀ v' w', w'.ownsRow base e size v' (n + m) (xs ++ news) → w.grownBy w' v.ownBlock → wpList P ops Q rest (a.put o.dst v') w') : wpList P ops Q (o :: rest) a w := by
  rcases h2.2 with ⟨e2, h0⟩ | ⟨g, cap, cur, e2, _⟩
  · have hnil : news = [] := by
      have := h2.1
      rw [h0, Nat.zero_mul] at this
      exact List.eq_nil_of_length_eq_zero this
    subst hnil
    refine wpList_append_own_none hgd s x t ho base e i size ht hi v n xs hs hown (by rw [hx, e2]) (h v w ?_ ?_)
    · rw [h0, Nat.add_zero, List.append_nil]; exact hown
    · exact World.grownBy.refl _ _
  · exact wpList_append_own w hgd s x t ho base e i z size bytes ht hi hz hsize hby hzs hsz v n xs hs hown ⟨g, 0, none⟩ m cap news (by rw [hx, e2]) h2.1 (fun j u hu => h2.cells (g := g) (by rw [e2]; rfl) j u hu) h1 h63 hbytes hbase (fun v' w' a1 b1 _ => h v' w' a1 b1)
theorem asks_add (A B : List AskI) : asksV (A ++ B) = asksV A ++ asksV B := by unfold asksV; rw [List.flatMap_append]
theorem asks_one (K : List AskI) : ∀ u ∈ asksV K, u.oneCell' = true := by
  intro u hu
  unfold asksV at hu
  obtain ⟨q, _, hq⟩ := List.mem_flatMap.1 hu
  simp at hq
  rcases hq with rfl | rfl | rfl | rfl | rfl | rfl <;> rfl
theorem who_small (f : Nat → Bool) : (whoTo f 12).length ≤ 12 := by
  unfold whoTo
  rw [List.length_map]
  exact Nat.le_trans (List.length_filter_le _ _) (by simp)
theorem who_in (f : Nat → Bool) : ∀ x ∈ whoTo f 12, 0 ≤ x ∧ x < 12 := fun x hx => by
  obtain ⟨a, h, _, rfl⟩ := (who_mem f 12 x).1 hx
  omega
theorem linksJ_short (R : Rgs) (P : List Int) (hP : P.length ≤ 12) : (linksJ P (allL R 0 P)).length ≤ 144 := by
  unfold linksJ
  rw [List.length_map]
  exact Nat.le_trans (allL_short R P 0) (Nat.mul_le_mul hP hP)
theorem asks_small {Q : PL} {R : Rgs} (hst : stateOk Q = true) (hf : regFold R0 Q = some R) (h0 : rnds Q = 0) :
    asksQ Q = eachA 1 (whoTo (isIn R) 12) ++ linksJ (whoTo (isIn R) 12) (allL R 0 (whoTo (isIn R) 12)) ++ eachA 3 (whoTo (isLf R) 12) := by
  obtain ⟨R', hf', I, ha, _⟩ := reg_inv hst
  rw [hf] at hf'
  cases hf'
  unfold asksQ
  rw [if_pos ⟨hst, h0⟩, ← links_are hst I, ids_is I ha, left_is I ha]
set_option maxRecDepth 100000 in
set_option maxHeartbeats 4000000 in
theorem implAsks_gen (B : Nat) (v : Value) (Q : PL) (h1 : pasize Q ≤ 1048576) (w : World) (hB : B ≤ w.heap.size) (ht : Rg.Tab w.heap.size w) (hv : PaAt w v B Q) :
    Calls Tryz.prog 31 #[v] w fun e w' => (∃ d, e = .returned (.tuple #[d, .bool (asksB Q)]) ∧ AksOwn w' w.heap.size d (asksQ Q)) ∧ Below w.heap.size w w' := by
  obtain ⟨i0, hi, hz0, hz1, hz2⟩ := info_parts Gr.infoAsk
  obtain ⟨a, c, rfl, hQ, _⟩ := hv
  have RG := hide (Rg.register_any a Q.length c B Q (pasize_le h1).1 w hB ht hQ)
  rw [Rg.reg_is] at RG
  have hX : asksB Q = (stateOk Q && decide (rnds Q = 0)) := rfl
  have hNO : Hid (asksB Q = false → asksQ Q = []) := fun h => by
    unfold asksB at h
    unfold asksQ
    rw [if_neg]
    rintro ⟨a1, a2⟩
    rw [a1, decide_eq_true a2] at h
    cases h
  have HRN : Hid (∀ R, regFold R0 Q = some R → stateOk Q = true → rnds Q = R.rds.length) := fun R hf hst => by
    obtain ⟨R', hf', _, _, _, hn⟩ := Rg.reg_inv hst
    rw [hf] at hf'
    cases hf'
    exact hn
  have HAS : Hid (∀ R, regFold R0 Q = some R → stateOk Q = true → rnds Q = 0 → asksQ Q = eachA 1 (whoTo (isIn R) 12) ++ linksJ (whoTo (isIn R) 12) (allL R 0 (whoTo (isIn R) 12)) ++ eachA 3 (whoTo (isLf R) 12)) := fun R hf hst h0 => asks_small hst hf h0
  generalize asksQ Q = X at hNO HAS ⊢
  generalize asksB Q = xb at hX hNO ⊢
  generalize stateOk Q = st at RG hX HRN HAS
  clear hQ ht
  go_enter Tryz.func31, Tryz.ntmps31
  go_wp2_with fail
  refine (unhide RG).mono ?_
  rintro e w0 ⟨⟨R, rfl, hR, hf⟩, hb0⟩
  cases st with
  | false =>
    rw [Bool.false_and] at hX
    have hX2 := unhide hNO hX
    subst hX hX2
    go_wp2
    go_returns
    exact ⟨⟨_, rfl, rfl, .inl ⟨rfl, rfl⟩⟩, hb0⟩
  | true =>
    rw [Bool.true_and] at hX
    have hrn := unhide HRN R (hf rfl) rfl
    have HR := hide hR
    obtain ⟨_, rv, vs, hk0, hrd0⟩ := hR
    obtain ⟨ra, rc, hrv⟩ := Rg.row_shape0 hrd0.own
    have c600 : w0.cell? ⟨w.heap.size, 600, none⟩ = some (.slice ra R.rds.length rc) := hk0.cell 600 _ (by rw [Rg.regC_at _ _ _ (by omega), Rg.cell_rds, hrv])
    clear hk0 hrd0 hrv
    by_cases hn0 : R.rds.length = 0
    · have hXe := unhide HAS R (hf rfl) rfl (by omega)
      rw [decide_eq_true (by omega)] at hX
      subst hX
      rw [hn0] at c600
      have TJ := hide (Rg.thatJoined_any w.heap.size w.heap.size R w0 (unhide HR))
      have hmf : ∀ (fn : Fn) (first cap : Array Value) (w : World), (Instr.makeFunc fn first cap).run Tryz.prog w = .ok (.func fn first cap) w := fun _ _ _ _ => rfl
      obtain ⟨P, hP⟩ : ∃ P, P = whoTo (isIn R) 12 := ⟨_, rfl⟩
      obtain ⟨L, hL⟩ : ∃ L, L = whoTo (isLf R) 12 := ⟨_, rfl⟩
      obtain ⟨K, hK⟩ : ∃ K, K = linksJ P (allL R 0 P) := ⟨_, rfl⟩
      have hP12 : P.length ≤ 12 := by rw [hP]; exact who_small _
      have hL12 : L.length ≤ 12 := by rw [hL]; exact who_small _
      have hK144 : K.length ≤ 144 := by rw [hK]; exact linksJ_short R P hP12
      have hPin : ∀ x ∈ P, 0 ≤ x ∧ x < 12 := by rw [hP]; exact who_in _
      have LJ : Hid (∀ ap cp W, RegAt W w.heap.size w.heap.size R → IntsAt W ap P.length W.heap.size P → Calls Tryz.prog 65 #[.pointer (some ⟨w.heap.size, 0, none⟩), .slice ap P.length cp] W fun e w' => (∃ d, e = .returned d ∧ AkOwn w' W.heap.size d K) ∧ Below W.heap.size W w') := fun ap cp W hr hi => by
        have := linkAsks_any w.heap.size w.heap.size R ap cp P hP12 hPin W hr hi
        rw [← hK] at this
        exact this
      have TL : Hid (∀ W, RegAt W w.heap.size w.heap.size R → Calls Tryz.prog 40 #[.pointer (some ⟨w.heap.size, 0, none⟩), .func (.func 66) #[.pointer (some ⟨w.heap.size, 0, none⟩)] #[]] W fun e w' => (∃ d, e = .returned d ∧ Gr.InOwn w' W.heap.size d L) ∧ Below W.heap.size W w') := fun W hr => by
        rw [hL]
        exact Rg.thatLeft_any w.heap.size w.heap.size R W hr
      rw [← hP] at TJ
      rw [← hP, ← hL, ← hK] at hXe
      have e1l : (eachA 1 P).length = P.length := by unfold eachA; rw [List.length_map]
      have e3l : (eachA 3 L).length = L.length := by unfold eachA; rw [List.length_map]
      have EA := hide (fun a cap W hs => each_any 1 a cap W.heap.size P (by omega) W (Nat.le_refl _) hs)
      have EL := hide (fun a cap W hs => each_any 3 a cap W.heap.size L (by omega) W (Nat.le_refl _) hs)
      clear hP hL hK hPin hf HAS HRN hrn hNO
      generalize eachA 1 P = A1 at EA e1l hXe
      generalize eachA 3 L = A3 at EL e3l hXe
      have HXE := hide hXe
      clear hXe
      go_wp2_with fail
      refine (unhide TJ).mono ?_
      rintro e w1 ⟨⟨d1, rfl, ho1⟩, hb1⟩
      obtain ⟨pa, pc, rfl, hi1⟩ := Gr.intsAt_of_own ho1
      have HI1 := hide hi1
      have EA1 := hide (unhide EA pa pc w1 hi1)
      have b01 := hb0.trans (hb1.mono hb0.size)
      have hR1 := (unhide HR).below hb1
      have HR1 := hide hR1
      clear TJ EA ho1 hi1 hR1 c600 HR
      go_wp2_with fail
      refine (unhide EA1).mono ?_
      rintro e w2 ⟨⟨d2, rfl, ho2⟩, hb2⟩
      have b02 := b01.trans (hb2.mono b01.size)
      have hR2 := (unhide HR1).below hb2
      have hi2 : IntsAt w2 pa P.length w2.heap.size P := by
        have h := (unhide HI1).below hb2 (Nat.le_refl _)
        refine ⟨h.1, fun j hj => ?_⟩
        obtain ⟨b, off, e, hbb, hc⟩ := h.2 j hj
        exact ⟨b, off, e, by have := hb2.size; omega, hc⟩
      have LJ2 := hide (unhide LJ pa pc w2 hR2 hi2)
      have HR2 := hide hR2
      have HO2 : Hid (AkOwn w2 w1.heap.size d2 A1) := ho2
      clear LJ EA1 ho2 hR2 HI1 hi2
      go_wp2_with fail
      refine (unhide LJ2).mono ?_
      rintro e w3 ⟨⟨d3, rfl, ho3⟩, hb3⟩
      have b03 := b02.trans (hb3.mono b02.size)
      have b13 : Below w1.heap.size w1 w3 := hb2.trans (hb3.mono hb2.size)
      have ho23 := own_below (unhide HO2) hb3
      unfold AkOwn at ho3
      clear LJ2 HO2 HR2
      go_wp2_with (at_builtin; refine wpList_append_rows _ rfl _ _ 45 rfl w1.heap.size 77 i0 (.agg #[.int .i64 0, .int .i64 0, .int .i64 0, .int .i64 0, .int .i64 0, .int .i64 0]) 6 48 Tryz.underlying45 hi hz0 hz1 hz2 rfl (by decide) _ _ _ rfl ho23 _ _ _ _ rfl ho3 (asks_one K) ?_ ?_ ?_ ?_)
      · unfold maxLen; omega
      · omega
      · exact b13.size
      intro d4 w4 hown4 hgrow4
      have b14 : Below w1.heap.size w1 w4 := b13.trans ((Gr.Kept.of_grown hgrow4).below b13.size (fun i hi => (ho23.lt i hi).1))
      have HO4 : Hid (AkOwn w4 w1.heap.size d4 (A1 ++ K)) := by
        show AkOwn _ _ _ _
        unfold AkOwn
        rw [asks_add, List.length_append, e1l]
        exact hown4
      have TL4 := hide (unhide TL w4 ((unhide HR1).below b14))
      have b04 := b01.trans (b14.mono b01.size)
      clear hown4 hgrow4 ho23 ho3 b13 TL HR1 b02 b03 hb2 hb3
      go_wp2_with fail
      refine (unhide TL4).mono ?_
      rintro e w5 ⟨⟨d5, rfl, ho5⟩, hb5⟩
      obtain ⟨la, lc, rfl, hi5⟩ := Gr.intsAt_of_own ho5
      have EL5 := hide (unhide EL la lc w5 hi5)
      have ho45 := own_below (unhide HO4) hb5
      clear TL4 ho5 hi5 HO4 EL
      go_wp2_with fail
      refine (unhide EL5).mono ?_
      rintro e w6 ⟨⟨d6, rfl, ho6⟩, hb6⟩
      have ho46 := own_below ho45 hb6
      have b46 : Below w4.heap.size w4 w6 := hb5.trans (hb6.mono hb5.size)
      have b16 : Below w1.heap.size w1 w6 := b14.trans (b46.mono b14.size)
      unfold AkOwn at ho6
      have hal : (A1 ++ K).length ≤ 156 := by rw [List.length_append]; omega
      clear EL5 ho45
      go_wp2_with (at_builtin; refine wpList_append_rows _ rfl _ _ 45 rfl w1.heap.size 77 i0 (.agg #[.int .i64 0, .int .i64 0, .int .i64 0, .int .i64 0, .int .i64 0, .int .i64 0]) 6 48 Tryz.underlying45 hi hz0 hz1 hz2 rfl (by decide) _ _ _ rfl ho46 _ _ _ _ rfl ho6 (asks_one A3) ?_ ?_ ?_ ?_)
      · unfold maxLen; omega
      · omega
      · exact b16.size
      intro d7 w7 hown7 hgrow7
      have b17 : Below w1.heap.size w1 w7 := b16.trans ((Gr.Kept.of_grown hgrow7).below b16.size (fun i hi => (ho46.lt i hi).1))
      have b07 := b01.trans (b17.mono b01.size)
      have HO7 : Hid (AksOwn w7 w.heap.size d7 X) := by
        show AksOwn _ _ _ _
        rw [unhide HXE]
        unfold AksOwn
        rw [asks_add (A1 ++ K) A3, List.length_append, List.length_append, e1l, e3l]
        exact own_lower b01.size hown7
      clear hown7 hgrow7 ho46 ho6 HXE b16 b17 b46 b14 b04
      go_wp2
      go_returns
      exact ⟨⟨_, rfl, unhide HO7⟩, b07⟩
    · rw [decide_eq_false (by omega)] at hX
      have hX2 := unhide hNO hX
      subst hX hX2
      have hgt : (0 : Int) < ((R.rds.length : Nat) : Int) := by omega
      clear HR hf HRN HAS hNO hrn
      generalize R.rds.length = n at c600 hgt hn0
      go_wp2
      go_returns
      exact ⟨⟨_, rfl, rfl, .inl ⟨rfl, rfl⟩⟩, hb0⟩
end Cy
end Go.Proofs.YtihnaddfpmjpaaaGreatDoor
