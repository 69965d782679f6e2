/-
  Texts of this claim, one behind the other: Si8, Si9, SiA, ScW.
-/
import Derived.Test.YtjhnippfepbjmaaGreatDoorJ42
import Derived.Test.YtjhnippfepbjmaaGreatDoorJ38
import Derived.Deep.RegionLaw
import Derived.Deep.AppendLies
import Derived.Test.YtjhnippfepbjmaaGreatDoorJ12

/-
  The program's hall line: strings.HasPrefix at a sharp, impl.hallIn.
-/
namespace Go.Proofs.YtjhnippfepbjmaaGreatDoor
namespace Sc
open Go.RowKit
open Gr (own_lower InOwn InAt Blk below_new DeedI)

theorem pre_rem (v : ByteArray) (h : 1 ≤ v.size) : ((v.extract 0 1).toList == [35]) = isRem v := by
  have hl : (v.extract 0 1).toList = [v[0]'(by omega)] := by
    rw [ByteArray.toList_eq]
    apply List.ext_getElem
    · simp; omega
    · intro i h1 h2
      have : i = 0 := by simpa using h2
      subst this
      simp
      rfl
  unfold isRem
  rw [hl, byteAt_eq (show 0 < v.size by omega), Bool.eq_iff_iff]
  simp only [beq_iff_eq, List.cons.injEq, and_true, decide_eq_true_eq]
  constructor
  · intro e; rw [e]; rfl
  · intro e; exact UInt8.toNat.inj e

theorem hasRem0 (v : ByteArray) (h0 : 1 ≤ v.size) (hv : v.size ≤ 1000) (w : World) : Calls Tryz.prog 40 #[.string v, .string ⟨#[35]⟩] w fun e w' => e = .returned (.bool (isRem v)) ∧ w' = w := by
  have hp := pre_rem v h0
  have h1 : (1 : Int) ≤ (v.size : Int) := by omega
  have h2 : (v.size : Int) ≤ 1000 := by omega
  rw [← hp]
  clear hp
  go_enter Tryz.func40, Tryz.ntmps40
  go_wp2
  go_ret
  exact ⟨rfl, rfl⟩

theorem hasRem (v : ByteArray) (h0 : 1 ≤ v.size) (hv : v.size ≤ 1000) (w : World) : Calls Tryz.prog 27 #[.string v, .string ⟨#[35]⟩] w fun e w' => e = .returned (.bool (isRem v)) ∧ w' = w := by
  have HP := hide (hasRem0 v h0 hv w)
  go_enter Tryz.func27, Tryz.ntmps27
  go_wp2_with fail
  refine (unhide HP).mono ?_
  rintro e w1 ⟨rfl, rfl⟩
  go_wp2
  go_ret
  exact ⟨rfl, rfl⟩

/-- The sectors of a hall line, or none. -/
def HlPost (e : Ending) (o : Option Nat) : Prop := ∃ z : Int, e = .returned (.tuple #[.int .i64 z, .bool o.isSome]) ∧ ∀ n, o = some n → z = (n : Int)

theorem hl_none {z : Int} {o : Option Nat} (h : o = none) : HlPost (.returned (.tuple #[.int .i64 z, .bool false])) o := by
  subst h
  exact ⟨z, rfl, fun n hn => by cases hn⟩

/-- The sectors that a row of numbers tells. -/
def hallN : Option (List Int) → Option Nat
  | some [k] => if 4 ≤ k ∧ k ≤ 400 then some k.toNat else none
  | _ => none

theorem hall_len {x : ByteArray} {r : List ByteArray} (h : r.length ≠ 1) : hallM (x :: r) = none := by
  match r, h with
  | [], _ => rfl
  | [_], h => simp at h
  | _ :: _ :: _, _ => rfl

theorem hall_word {x : ByteArray} {r : List ByteArray} (h : isHall x = false) : hallM (x :: r) = none := by
  match r with
  | [] => rfl
  | [n] => simp only [hallM]; rw [if_neg (by rw [h]; simp)]
  | _ :: _ :: _ => rfl

set_option maxRecDepth 100000 in
set_option maxHeartbeats 4000000 in
theorem implHall (x : ByteArray) (r : List ByteArray) (b off c B T : Nat) (hL : r.length ≤ 7) (hc : r.length + 1 ≤ c) (w : World) (hB : B ≤ w.heap.size) (h : txAt w (some ⟨b, off, none⟩) B (x :: r)) (hT : T ≤ w.heap.size) (ht : Tb T w) :
    Calls Tryz.prog 41 #[.slice (some ⟨b, off, none⟩) (r.length + 1) c] w fun e w' => HlPost e (hallM (x :: r)) ∧ Below w.heap.size w w' := by
  obtain ⟨b', off', eb, hbB, cx⟩ := h 0 (by simp)
  simp only [Option.some.injEq, Addr.mk.injEq, and_true] at eb
  obtain ⟨rfl, rfl⟩ := eb
  simp only [List.getElem_cons_zero, Nat.add_zero] at cx
  have hbw : b < w.heap.size := by omega
  obtain ⟨th, hth⟩ : ∃ t, t = (x.toList == [104, 97, 108, 108]) := ⟨_, rfl⟩
  have HHA : Hid (isHall x = th) := hth.symm
  have hq : (x.toList == [104, 97, 108, 108]) = th := hth.symm
  clear hth
  cases th with
  | false =>
    rw [hall_word (unhide HHA)]
    clear h ht
    generalize r.length = n at hL hc ⊢
    go_enter Tryz.func41, Tryz.ntmps41
    go_wp2
    go_ret2
    exact ⟨hl_none rfl, Below.refl _ _⟩
  | true =>
    have key : ∀ (A : Option Addr) (cA : Nat), txAt w A B r → Calls Tryz.prog 52 #[.slice A r.length cA] w fun e w' => InPost w w' e (numsM r) ∧ Below w.heap.size w w' := fun A cA hA => implNumbers A cA B T r (by omega) w hB hA hT ht
    have HK := hide key
    have FS := hide (fun x w => implFmt_any x w)
    have HLN : Hid (∀ K, numsM r = some K → K.length = r.length) := fun K h => numsM_length h
    have HT1 : Hid (¬ c = 1 → txAt w (some ⟨b, off + 1, none⟩) B r) := fun hc1 => by
      have h1 := h.drop 1 (c := c) (by rw [List.length_cons]; exact hc)
      rw [if_neg hc1] at h1
      simpa using h1
    have hH : hallM (x :: r) = hallN (numsM r) := by
      match r with
      | [] => rfl
      | [y] =>
        rw [hall_is (unhide HHA)]
        simp only [numsM]
        cases rdD y with
        | none => rfl
        | some k =>
          simp only [Option.map_some]
          by_cases hk : 4 ≤ k ∧ k ≤ 400
          · rw [if_pos hk]; show _ = if _ then _ else _; rw [if_pos (by omega)]; simp
          · rw [if_neg hk]; show _ = if _ then _ else _; rw [if_neg (by omega)]
      | y1 :: y2 :: q =>
        show none = _
        cases hn : numsM (y1 :: y2 :: q) with
        | none => rfl
        | some K =>
          have := numsM_length hn
          match K, this with
          | [], _ => rfl
          | [_], h => simp at h
          | _ :: _ :: _, _ => rfl
    rw [hH]
    have HR0 : Hid (r.length = 0 → r = []) := List.eq_nil_of_length_eq_zero
    clear key h ht hH
    generalize hno : numsM r = no at HK HLN
    have HZ : Hid (r.length = 0 → no = some []) := fun h => by rw [← hno, unhide HR0 h]; rfl
    clear hno
    obtain ⟨n, hn⟩ : ∃ n, n = r.length := ⟨_, rfl⟩
    rw [← hn] at hL hc HK HLN HZ ⊢
    have HNN := hide hn
    have hx1 : (1 : Int) ≤ (n : Int) + 1 := by omega
    clear hn
    by_cases hc1 : c = 1
    · subst hc1
      obtain rfl : n = 0 := by omega
      have hr := unhide HR0 (unhide HNN).symm
      subst hr
      have NR := hide (unhide HK (some ⟨b, off, none⟩) 0 (txAt.nil _ _ _))
      clear HK HT1
      go_enter Tryz.func41, Tryz.ntmps41
      go_wp2_with fail
      refine (unhide NR).mono ?_
      rintro e w1 ⟨⟨v1, rfl, ho1⟩, hb1⟩
      obtain ⟨av, cv, hv1, _⟩ := Gr.intsAt_of_own ho1
      subst hv1
      cases no with
      | none =>
        clear ho1
        go_wp2
        go_ret2
        exact ⟨hl_none rfl, hb1⟩
      | some K =>
        have hKl := unhide HLN K rfl
        simp only [Option.getD_some, Option.isSome_some] at ho1 ⊢
        by_cases h1 : K.length = 1
        · obtain ⟨k, rfl⟩ := List.length_eq_one_iff.1 h1
          simp only [List.length_cons, List.length_nil, Nat.zero_add] at ho1 ⊢
          obtain ⟨gq, cq, hA2, hgq, hgl⟩ := ho1.form (by simp)
          simp only [Value.slice.injEq, true_and] at hA2
          obtain ⟨rfl, rfl⟩ := hA2
          have ck : w1.cell? ⟨gq, 0, none⟩ = some (.int .i64 k) := ho1.cellAt 0 (by omega)
          have FS1 := hide (unhide FS k w1)
          have hfo : fmtOk k = decide (4 ≤ k ∧ k ≤ 400) := rfl
          rw [hfo] at FS1
          clear hfo
          obtain ⟨fb, hfb⟩ : ∃ f, f = decide (4 ≤ k ∧ k ≤ 400) := ⟨_, rfl⟩
          rw [← hfb] at FS1
          have HFB := hide hfb
          clear hfb
          generalize fmtL k = fl at FS1
          generalize fmtT k = ft at FS1
          have HO1 := hide (fun W (hb : Below w1.heap.size w1 W) => (hb.cell (p := ⟨gq, 0, none⟩) hgl).trans ck)
          clear ho1 hKl h1
          go_wp2_with fail
          refine (unhide FS1).mono ?_
          rintro e w6 ⟨⟨v0, v2, rfl, hd6⟩, hb6⟩
          have ck6 := unhide HO1 w6 hb6
          have b6 := hb1.trans (hb6.mono hb1.size)
          obtain ⟨A0, m0, C0, A1, m1, C1, e6, _, _⟩ := hd6.at
          simp at e6
          obtain ⟨rfl, rfl⟩ := e6
          clear hd6 hb6
          go_wp2
          go_ret2
          refine ⟨?_, b6⟩
          by_cases hk : 4 ≤ k ∧ k ≤ 400
          · have hN : hallN (some [k]) = some k.toNat := if_pos hk
            rw [hN]
            exact ⟨k, by rw [show fb = true from (unhide HFB).trans (decide_eq_true hk)]; rfl, fun n hn => by cases hn; omega⟩
          · have hN : hallN (some [k]) = none := if_neg hk
            rw [hN]
            exact ⟨k, by rw [show fb = false from (unhide HFB).trans (decide_eq_false hk)]; rfl, fun n hn => by cases hn⟩
        · have h1i : ((K.length : Int) != 1) = true := by rw [bne_iff_ne]; omega
          have HE : Hid (hallN (some K) = none) := by
            match K, h1 with
            | [], _ => rfl
            | [_], h => simp at h
            | _ :: _ :: _, _ => rfl
          clear ho1
          generalize K.length = kl at h1i
          go_wp2
          go_ret2
          rw [unhide HE]
          exact ⟨hl_none rfl, hb1⟩
    · have NR := hide (unhide HK (some ⟨b, off + 1, none⟩) (c - 1) (unhide HT1 hc1))
      clear HK HT1
      go_enter Tryz.func41, Tryz.ntmps41
      go_wp2_with fail
      refine (unhide NR).mono ?_
      rintro e w1 ⟨⟨v1, rfl, ho1⟩, hb1⟩
      obtain ⟨av, cv, hv1, _⟩ := Gr.intsAt_of_own ho1
      subst hv1
      cases no with
      | none =>
        clear ho1
        go_wp2
        go_ret2
        exact ⟨hl_none rfl, hb1⟩
      | some K =>
        have hKl := unhide HLN K rfl
        simp only [Option.getD_some, Option.isSome_some] at ho1 ⊢
        by_cases h1 : K.length = 1
        · obtain ⟨k, rfl⟩ := List.length_eq_one_iff.1 h1
          simp only [List.length_cons, List.length_nil, Nat.zero_add] at ho1 ⊢
          obtain ⟨gq, cq, hA2, hgq, hgl⟩ := ho1.form (by simp)
          simp only [Value.slice.injEq, true_and] at hA2
          obtain ⟨rfl, rfl⟩ := hA2
          have ck : w1.cell? ⟨gq, 0, none⟩ = some (.int .i64 k) := ho1.cellAt 0 (by omega)
          have FS1 := hide (unhide FS k w1)
          have hfo : fmtOk k = decide (4 ≤ k ∧ k ≤ 400) := rfl
          rw [hfo] at FS1
          clear hfo
          obtain ⟨fb, hfb⟩ : ∃ f, f = decide (4 ≤ k ∧ k ≤ 400) := ⟨_, rfl⟩
          rw [← hfb] at FS1
          have HFB := hide hfb
          clear hfb
          generalize fmtL k = fl at FS1
          generalize fmtT k = ft at FS1
          have HO1 := hide (fun W (hb : Below w1.heap.size w1 W) => (hb.cell (p := ⟨gq, 0, none⟩) hgl).trans ck)
          clear ho1 hKl h1
          go_wp2_with fail
          refine (unhide FS1).mono ?_
          rintro e w6 ⟨⟨v0, v2, rfl, hd6⟩, hb6⟩
          have ck6 := unhide HO1 w6 hb6
          have b6 := hb1.trans (hb6.mono hb1.size)
          obtain ⟨A0, m0, C0, A1, m1, C1, e6, _, _⟩ := hd6.at
          simp at e6
          obtain ⟨rfl, rfl⟩ := e6
          clear hd6 hb6
          go_wp2
          go_ret2
          refine ⟨?_, b6⟩
          by_cases hk : 4 ≤ k ∧ k ≤ 400
          · have hN : hallN (some [k]) = some k.toNat := if_pos hk
            rw [hN]
            exact ⟨k, by rw [show fb = true from (unhide HFB).trans (decide_eq_true hk)]; rfl, fun n hn => by cases hn; omega⟩
          · have hN : hallN (some [k]) = none := if_neg hk
            rw [hN]
            exact ⟨k, by rw [show fb = false from (unhide HFB).trans (decide_eq_false hk)]; rfl, fun n hn => by cases hn⟩
        · have h1i : ((K.length : Int) != 1) = true := by rw [bne_iff_ne]; omega
          have HE : Hid (hallN (some K) = none) := by
            match K, h1 with
            | [], _ => rfl
            | [_], h => simp at h
            | _ :: _ :: _, _ => rfl
          clear ho1
          generalize K.length = kl at h1i
          go_wp2
          go_ret2
          rw [unhide HE]
          exact ⟨hl_none rfl, hb1⟩

end Sc
end Go.Proofs.YtjhnippfepbjmaaGreatDoor

/-
  The program's script, line by line: takeParts, take.
-/
namespace Go.Proofs.YtjhnippfepbjmaaGreatDoor
namespace Sc
open Go.RowKit
open Gr (own_lower InOwn InAt Blk below_new DeedI)

/-- A script's variable, and what its lines have told. -/
def SBx (w : World) (g : Nat) (st : St) (ks : List Value) (v : Value) : Prop :=
  Blk w g #[.int .i64 (st.s : Int), v] 50 ∧ DsOwn w (g + 1) v ks st.d ∧ DistK ks ∧ st.d.length ≤ 40

theorem SBx.below {w w' : World} {g : Nat} {st : St} {ks : List Value} {v : Value} (h : SBx w g st ks v) (hb : Below w.heap.size w w') : SBx w' g st ks v :=
  ⟨h.1.below hb, h.2.1.below hb, h.2.2⟩

theorem script_deed : (50 : Nat) ≠ 46 := by decide

/-- What a line's telling leaves. -/
def TkPost (g : Nat) (w w' : World) (e : Ending) (o : Option St) : Prop :=
  e = .returned (.bool o.isSome) ∧ (∀ st', o = some st' → ∃ ks v, SBx w' g st' ks v) ∧ Below g w w' ∧ w.heap.size ≤ w'.heap.size

set_option maxRecDepth 100000 in
set_option maxHeartbeats 8000000 in
theorem implTell (g : Nat) (st : St) (ks : List Value) (v : Value) (x : ByteArray) (r : List ByteArray) (b off c B T : Nat) (hL : r.length ≤ 7) (hc : r.length + 1 ≤ c) (hsz : ∀ y ∈ x :: r, 0 < y.size ∧ y.size ≤ 400) (w : World) (hB : B ≤ w.heap.size) (h : txAt w (some ⟨b, off, none⟩) B (x :: r)) (hT : T ≤ w.heap.size) (ht : Tb T w) (hS : SBx w g st ks v) :
    Calls Tryz.prog 28 #[.pointer (some ⟨g, 0, none⟩), .slice (some ⟨b, off, none⟩) (r.length + 1) c] w fun e w' => TkPost g w w' e (tellM st (x :: r)) := by
  obtain ⟨i0, hi0, iz0, iz1, iz2⟩ := info_parts infoDeed
  have hgl := hS.1.lt
  have g0 : w.cell? ⟨g, 0, none⟩ = some (.int .i64 (st.s : Int)) := hS.1.cell 0 _ rfl
  have HS := hide hS
  by_cases hs0 : st.s = 0
  · have HH := hide (implHall x r b off c B T hL hc w hB h hT ht)
    rw [tell_hall hs0]
    have hs0i : ((st.s : Int) == 0) = true := by rw [beq_iff_eq]; omega
    generalize hallM (x :: r) = ho at HH
    generalize r.length = n at HH hL hc
    clear hsz h ht
    go_enter Tryz.func28, Tryz.ntmps28
    go_wp2_with fail
    refine (unhide HH).mono ?_
    rintro e w1 ⟨⟨z, rfl, hz⟩, hb1⟩
    have s1 := (unhide HS).below hb1
    have c1 : w1.cell? ⟨g, 0, none⟩ = some (.int .i64 (st.s : Int)) := s1.1.cell 0 _ rfl
    have f1 := s1.1.froz 0
    have ks1 : Gr.Kept (fun k => k = g) w1 (w1.setCell ⟨g, 0, none⟩ (.int .i64 z)) := Gr.Kept.set (S := fun k => k = g) _ _ _ _ rfl
    have HBX := hide (s1.1.set 0 (.int .i64 z))
    have HDS := hide (s1.2.1.kept ks1 (fun k hk e => by omega))
    have HBB := hide (((hb1.mono (Nat.le_of_lt hgl))).setCell (p := ⟨g, 0, none⟩) (Nat.le_refl _) (.int .i64 z))
    have HSZ : Hid (w.heap.size ≤ (w1.setCell ⟨g, 0, none⟩ (.int .i64 z)).heap.size) := by show _ ≤ _; simp; exact hb1.size
    have HZ := hide hz
    clear s1 ks1 hz hb1
    go_wp2
    go_ret
    refine ⟨by simp, fun st' hst => ?_, unhide HBB, unhide HSZ⟩
    obtain ⟨n', hn', rfl⟩ := Option.map_eq_some_iff.1 hst
    have e := unhide HZ n' hn'
    refine ⟨ks, v, ?_, unhide HDS, (unhide HS).2.2⟩
    have hB9 := unhide HBX
    rw [e] at hB9 ⊢
    exact hB9
  · have HH := hide (implDeedIn x r b off c B T hL hc hsz w hB h hT ht)
    have hs0i : ((st.s : Int) == 0) = false := by rw [beq_eq_false_iff_ne]; omega
    have HTE := hide (tell_deed (st := st) (p := x :: r) hs0)
    obtain ⟨O, hO⟩ : ∃ O, O = tellM st (x :: r) := ⟨_, rfl⟩
    rw [← hO] at HTE ⊢
    clear hO
    generalize deedM (x :: r) = od at HH HTE
    generalize r.length = n at HH hL hc
    clear hsz h ht
    go_enter Tryz.func28, Tryz.ntmps28
    go_wp2_with fail
    refine (unhide HH).mono ?_
    rintro e w5 ⟨⟨y, ka, kn, kc, rfl, hY⟩, hb5⟩
    have HY := hide hY
    obtain ⟨yT, yc, ys, yo, yp⟩ := y
    obtain ⟨V6, hV6⟩ : ∃ W, W = w5.alloc (Obj.cells #[.string yT, .bool yc, .int .i64 ys, .slice ka kn kc, .int .i64 yo, .int .i64 yp] 46) := ⟨_, rfl⟩
    have bV6 : Below w5.heap.size w5 V6 := by rw [hV6]; exact below_new _ _
    have m6 : Blk V6 w5.heap.size #[.string yT, .bool yc, .int .i64 ys, .slice ka kn kc, .int .i64 yo, .int .i64 yp] 46 := by rw [hV6]; exact Blk.new0
    have s6 := ((unhide HS).below hb5).below bV6
    have b6 := hb5.trans (bV6.mono hb5.size)
    obtain ⟨ao, co, hao⟩ := s6.2.1.shape
    subst hao
    have c0 : V6.cell? ⟨w5.heap.size, 0, none⟩ = some (.string yT) := m6.cell 0 _ rfl
    have c1 : V6.cell? ⟨w5.heap.size, 1, none⟩ = some (.bool yc) := m6.cell 1 _ rfl
    have c2 : V6.cell? ⟨w5.heap.size, 2, none⟩ = some (.int .i64 ys) := m6.cell 2 _ rfl
    have c3 : V6.cell? ⟨w5.heap.size, 3, none⟩ = some (.slice ka kn kc) := m6.cell 3 _ rfl
    have c4 : V6.cell? ⟨w5.heap.size, 4, none⟩ = some (.int .i64 yo) := m6.cell 4 _ rfl
    have c5 : V6.cell? ⟨w5.heap.size, 5, none⟩ = some (.int .i64 yp) := m6.cell 5 _ rfl
    have r4 : V6.cell? ⟨g, 1, none⟩ = some (.slice ao st.d.length co) := s6.1.cell 1 _ rfl
    have zV6 := m6.lt
    have zg6 := s6.1.lt
    have hfew := s6.2.2.2
    have HOD : V6.drew.ownsRow (g + 1) 46 6 (.slice ao st.d.length co) st.d.length (dsC ks st.d) := World.ownsRow.drew s6.2.1.2.1
    have HBX := hide s6.1
    have hne : (Value.slice ao st.d.length co).ownBlock ≠ some g := fun e => s6.1.apart s6.2.1.2.1 script_deed e.symm
    have HO5 : Hid (∀ d, od = some d → (⟨yT, yc, ys, yo, yp⟩ : DeedI) = d.1 ∧ kn = d.2.length ∧ InOwn V6 w.heap.size (.slice ka kn kc) d.2) := fun d h => by
      obtain ⟨h1, h2, h3⟩ := unhide HY d h
      exact ⟨h1, h2, h3.below bV6⟩
    have HS6 := hide s6
    have HB6 := hide b6
    have HM6 := hide m6
    have hz56 : w.heap.size ≤ w5.heap.size := hb5.size
    obtain ⟨nd, hnd⟩ : ∃ k, k = st.d.length := ⟨_, rfl⟩
    have HND := hide hnd
    rw [← hnd] at r4 HOD hne hfew
    clear hY hb5 bV6 m6 s6 b6 HY hnd
    go_upto_region 6 with fail
    rw [← hV6]
    clear hV6
    go_region_law
      (first
        | (refine step_append_lies _ (by rfl) _ _ _ (by rfl) (g + 1) 46 i0 _ 6 72 Tryz.underlying22 hi0 iz0 iz1 iz2 rfl (by omega) (.slice ao nd co) nd (dsC ks st.d) (by show _ = _; kernel_rfl) (by first | exact HOD.alloc _ | exact (HOD.alloc _).drew) ⟨V6.heap.size, 0, none⟩ 1 1 [.string yT, .bool yc, .int .i64 ys, .slice ka kn kc, .int .i64 yo, .int .i64 yp] (by show _ = _; kernel_rfl) (by rfl) (World.news_of_block (heap_alloc_new V6.drew _)) (six_one _ _ _ _ _ _ _ _) (by omega) (by unfold maxLen; omega) (by omega) (by simp; omega) (V6.heap.size + 1) (by simp) ?_; intro g14 cap14 w14 hown14 hgrow14 hat14 hlt14; have U14 := ((unhide HBX).below ((Below.refl V6.heap.size V6).drew.alloc (Nat.le_refl _) (Obj.cells #[.string yT, .bool yc, .int .i64 ys, .slice ka kn kc, .int .i64 yo, .int .i64 yp] 46))).kept (Gr.Kept.of_grown hgrow14) (fun e => hne e); have t0 := U14.cell 1 _ rfl; have tf := U14.froz 1))
    all_goals
      have hXb : Below V6.heap.size V6 (V6.drew.alloc (Obj.cells #[.string yT, .bool yc, .int .i64 ys, .slice ka kn kc, .int .i64 yo, .int .i64 yp] 46)) := (Below.refl V6.heap.size V6).drew.alloc (Nat.le_refl _) _
      have hbX := (unhide HB6).trans (hXb.mono (unhide HB6).size)
      have hb14 : Below g w w14 := (hbX.mono (Nat.le_of_lt hgl)).grown hgrow14 (Nat.le_trans (Nat.le_of_lt hgl) hbX.size) (fun k hk => by have := (HOD.lt k hk).1; omega)
      have ks14 : Gr.Kept (fun k => k = g) w14 (w14.setCell ⟨g, 1, none⟩ (.slice (some ⟨g14, 0, none⟩) (nd + 1) cap14)) := Gr.Kept.set (S := fun k => k = g) _ _ _ _ rfl
      have HB9 := hide (hb14.setCell (p := ⟨g, 1, none⟩) (Nat.le_refl _) (.slice (some ⟨g14, 0, none⟩) (nd + 1) cap14))
      have HSZ : Hid (w.heap.size ≤ (w14.setCell ⟨g, 1, none⟩ (.slice (some ⟨g14, 0, none⟩) (nd + 1) cap14)).heap.size) := by
        show _ ≤ _
        have h1 := hb14.size
        simp
        exact h1
      have U15 := U14.set 1 (.slice (some ⟨g14, 0, none⟩) (nd + 1) cap14)
      have q1 : (w14.setCell ⟨g, 1, none⟩ (.slice (some ⟨g14, 0, none⟩) (nd + 1) cap14)).cell? ⟨g, 1, none⟩ = some (.slice (some ⟨g14, 0, none⟩) (nd + 1) cap14) := U15.cell 1 _ rfl
      have HU := hide U15
      obtain ⟨W9, hW9⟩ : ∃ W, W = w14.setCell ⟨g, 1, none⟩ (.slice (some ⟨g14, 0, none⟩) (nd + 1) cap14) := ⟨_, rfl⟩
      rw [← hW9] at HB9 HSZ q1 HU ks14 ⊢
      have hfin : ∀ d, od = some d → nd < 40 → ∃ ks' v', SBx W9 g ⟨st.s, st.d ++ [d]⟩ ks' v' := fun d hd h40 => by
        obtain ⟨e1, e2, o5⟩ := unhide HO5 d hd
        obtain ⟨dI, dK⟩ := d
        simp only at e1 e2 o5
        subst e1 e2
        have end' := unhide HND
        have DX := (unhide HS6).2.1.below hXb
        rw [← end'] at DX
        have DS := DsOwn.snoc (d := (⟨yT, yc, ys, yo, yp⟩, dK)) (v' := .slice (some ⟨g14, 0, none⟩) (nd + 1) cap14) DX (InOwn.lower (B := w.heap.size) (o5.below hXb) (by omega)) hgrow14 (by rw [← end']; exact hown14)
        refine ⟨ks ++ [.slice ka dK.length kc], _, unhide HU, DS.kept ks14 (fun k hk e => by omega), ?_, by simp only [List.length_append, List.length_cons, List.length_nil]; omega⟩
        exact (unhide HS6).2.2.1.snoc (fun j hj gg e1 e2 => by
          have h1 := ((unhide HS).2.1.2.2 j hj (by rw [← (unhide HS).2.1.1]; exact hj)).blk gg e1
          have h2 := (Gr.InOwn.blk o5 gg e2).1
          omega)
      have HFN := hide hfin
      clear hXb hbX hb14 ks14 U14 U15 t0 tf hown14 hgrow14 hat14 hlt14 hfin hW9 c0 c1 c2 c3 c4 c5 r4 g0 HM6
      cases od with
      | none =>
        have hOe : O = none := unhide HTE
        subst hOe
        go_wp2_with fail
        go_ret
        exact ⟨rfl, (fun st' h => by cases h), unhide HB9, unhide HSZ⟩
      | some d =>
        by_cases h40 : nd < 40
        · have hOe : O = some ⟨st.s, st.d ++ [d]⟩ := by
            have h1 := unhide HTE
            have h2 := unhide HND
            simp only at h1
            rw [if_pos (by omega)] at h1
            exact h1
          subst hOe
          have h40i : (nd : Int) + 1 ≤ 40 := by omega
          go_wp2_with fail
          go_ret
          refine ⟨rfl, fun st' h => ?_, unhide HB9, unhide HSZ⟩
          cases h
          exact unhide HFN d rfl h40
        · have hOe : O = none := by
            have h1 := unhide HTE
            have h2 := unhide HND
            simp only at h1
            rw [if_neg (by omega)] at h1
            exact h1
          subst hOe
          have h40i : ¬ (nd : Int) + 1 ≤ 40 := by omega
          go_wp2_with fail
          go_ret
          exact ⟨rfl, (fun st' h => by cases h), unhide HB9, unhide HSZ⟩

end Sc
end Go.Proofs.YtjhnippfepbjmaaGreatDoor

/-
  The contracts of the program's take, and of impl.ReadScript.
-/
namespace Go.Proofs.YtjhnippfepbjmaaGreatDoor
namespace Sc
open Go.RowKit
open Gr (own_lower InOwn InAt Blk below_new DeedI)

/-- What a line makes of what was told. -/
def lineM (st : St) (l : ByteArray) : Option St := match Pt.partsO l with | none => none | some p => partM st p

theorem implParts' (s : ByteArray) (T : Nat) (w : World) (ht : Tb T w) : Calls Tryz.prog 26 #[.string s] w fun e w' => (∃ v, e = .returned (.tuple #[v, .bool (Pt.partsO s).isSome]) ∧ w'.ownsRow w.heap.size 9 1 v ((Pt.partsO s).getD []).length (tx ((Pt.partsO s).getD []))) ∧ Below w.heap.size w w' := Pt.implParts s w ht.here.2.1

set_option maxRecDepth 100000 in
set_option maxHeartbeats 4000000 in
theorem implTake (g : Nat) (st : St) (ks : List Value) (v : Value) (l : ByteArray) (T : Nat) (w : World) (hT : T ≤ w.heap.size) (ht : Tb T w) (hS : SBx w g st ks v) :
    Calls Tryz.prog 15 #[.pointer (some ⟨g, 0, none⟩), .string l] w fun e w' => TkPost g w w' e (lineM st l) := by
  have hgl := hS.1.lt
  have PO := hide (implParts' l T w ht)
  have HPE : Hid (∀ p, Pt.partsO l = some p → p.length ≤ 8 ∧ ∀ x ∈ p, 0 < x.size ∧ x.size ≤ 400) := fun p h => Pt.parts_each h
  have hLM : lineM st l = match Pt.partsO l with | none => none | some p => partM st p := rfl
  rw [hLM]
  clear hLM
  generalize Pt.partsO l = po at PO HPE
  have HS := hide hS
  have HTB := hide ht
  clear hS ht
  go_enter Tryz.func15, Tryz.ntmps15
  go_wp2_with fail
  refine (unhide PO).mono ?_
  rintro e w1 ⟨⟨v1, rfl, ho1⟩, hb1⟩
  have s1 := (unhide HS).below hb1
  have bg : Below g w w1 := hb1.mono (Nat.le_of_lt hgl)
  have hz1 := hb1.size
  cases po with
  | none =>
    clear ho1 s1
    go_wp2
    go_ret
    exact ⟨rfl, (fun st' h => by cases h), bg, hz1⟩
  | some p =>
    obtain ⟨hp8, hpx⟩ := unhide HPE p rfl
    simp only [Option.getD_some, Option.isSome_some] at ho1 ⊢
    obtain ⟨ap, cp, hv1, hcp, ht1, hg1⟩ := own_tx ho1
    subst hv1
    cases p with
    | nil =>
      clear ho1
      go_wp2
      go_ret
      exact ⟨rfl, (fun st' h => by cases h; exact ⟨ks, v, s1⟩), bg, hz1⟩
    | cons x r =>
      simp only [List.length_cons] at hp8 hcp hg1 ⊢
      obtain ⟨gp, hgp⟩ := hg1 (by omega)
      subst hgp
      obtain ⟨b', off', eb, hgpl, cx⟩ := ht1 0 (by simp)
      simp only [Option.some.injEq, Addr.mk.injEq, and_true] at eb
      obtain ⟨rfl, rfl⟩ := eb
      simp only [List.getElem_cons_zero, Nat.add_zero] at cx
      have hxs := hpx x (by simp)
      have HR := hide (fun w => hasRem x hxs.1 (by omega) w)
      have TL := hide (implTell g st ks v x r gp 0 cp w1.heap.size T (by omega) hcp hpx w1 (Nat.le_refl _) ht1 (Nat.le_trans hT hz1) ((unhide HTB).below hb1 hT) s1)
      have HRM1 : Hid (isRem x = true → partM st (x :: r) = some st) := part_rem
      have HRM0 : Hid (isRem x = false → partM st (x :: r) = tellM st (x :: r)) := part_tell
      have hm1 : ¬ (((r.length : Int) + 1) == 0) = true := by simp; omega
      generalize r.length = n at TL hp8 hcp hm1 ⊢
      have HS1 := hide s1
      clear ho1 ht1 hg1 hpx s1
      cases hrm : isRem x with
      | true =>
        rw [hrm] at HR
        have hE := unhide HRM1 hrm
        clear hrm HRM0 HRM1 TL
        show _
        go_wp2_with fail
        refine (unhide HR w1).mono ?_
        rintro e w2 ⟨rfl, hw2⟩
        subst w2
        go_wp2
        go_ret
        exact ⟨rfl, (fun st' h => by cases h; exact ⟨ks, v, unhide HS1⟩), bg, hz1⟩
      | false =>
        rw [hrm] at HR
        have HE := hide (unhide HRM0 hrm)
        clear hrm HRM0 HRM1
        go_wp2_with fail
        refine (unhide HR w1).mono ?_
        rintro e w2 ⟨rfl, hw2⟩
        subst w2
        go_wp2_with fail
        refine (unhide TL).mono ?_
        rintro e w3 ⟨he, h2, h3, h4⟩
        subst he
        have b3 := bg.trans h3
        have H2 := hide h2
        clear h2 h3
        go_wp2
        go_ret
        rw [unhide HE]
        exact ⟨rfl, unhide H2, b3, by omega⟩

theorem run_cons (i : Nat) (l : ByteArray) (r : List ByteArray) (st : St) : runM Pt.partsO i (l :: r) st = match lineM st l with | none => ⟨0, [], ((i + 1 : Nat) : Int)⟩ | some st' => runM Pt.partsO (i + 1) r st' := by
  unfold lineM
  cases hp : Pt.partsO l with
  | none => rw [runM_fault hp]
  | some p =>
    simp only
    cases h2 : partM st p with
    | none => rw [runM_bad hp h2]
    | some st' => rw [runM_on hp h2]

set_option maxRecDepth 100000 in
set_option maxHeartbeats 4000000 in
theorem implScript (t : ByteArray) (ht0 : t.size ≤ 1048576) (T : Nat) (w : World) (hT : T ≤ w.heap.size) (ht : Tb T w) :
    Calls Tryz.prog 5 #[.string t] w fun e w' => RsPost w.heap.size w' e (scriptM Pt.partsO t) ∧ Below w.heap.size w w' := by
  by_cases h6 : 6000 < t.size
  · have h6i : (6000 : Int) < (t.size : Int) := by omega
    have hR : scriptM Pt.partsO t = ⟨0, [], -1⟩ := by unfold scriptM; rw [if_pos h6]
    rw [hR]
    clear hR ht
    go_enter Tryz.func5, Tryz.ntmps5
    go_wp2
    go_ret3
    exact ⟨⟨_, [], rfl, DsOwn.nil _ _, DistK.nil⟩, Below.refl _ _⟩
  · have h6i : ¬ (6000 : Int) < (t.size : Int) := by omega
    have SL := hide (implLines t (by omega) w)
    by_cases h60 : 60 < (lines t).length
    · have hR : scriptM Pt.partsO t = ⟨0, [], -1⟩ := by unfold scriptM; rw [if_neg h6, if_pos h60]
      rw [hR]
      have h60i : (60 : Int) < ((lines t).length : Int) := by omega
      have hll := lines_small t
      generalize lines t = LL at SL h60i hll
      clear hR h60 ht
      go_enter Tryz.func5, Tryz.ntmps5
      go_wp2_with fail
      refine (unhide SL).mono ?_
      rintro e w1 ⟨⟨v, rfl, hv⟩, hb1⟩
      obtain ⟨a, c, hve, _⟩ := own_tx hv
      subst hve
      clear hv
      go_wp2
      go_ret3
      exact ⟨⟨_, [], rfl, DsOwn.nil _ _, DistK.nil⟩, hb1⟩
    · have hR : scriptM Pt.partsO t = runM Pt.partsO 0 (lines t) ⟨0, []⟩ := by unfold scriptM; rw [if_neg h6, if_neg h60]
      rw [hR]
      have h60i : ¬ (60 : Int) < ((lines t).length : Int) := by omega
      have hl60 : (lines t).length ≤ 60 := by omega
      generalize lines t = LL at SL h60i hl60
      obtain ⟨R, hRR⟩ : ∃ R, R = runM Pt.partsO 0 LL ⟨0, []⟩ := ⟨_, rfl⟩
      rw [← hRR]
      have HRR := hide hRR
      have HTB := hide ht
      clear hR h60 hRR ht
      go_enter Tryz.func5, Tryz.ntmps5
      go_wp2_with fail
      refine (unhide SL).mono ?_
      rintro e w1 ⟨⟨v, rfl, hv⟩, hb1⟩
      obtain ⟨al, cl, hve, hcl, htl, hal⟩ := own_tx hv
      subst hve
      obtain ⟨n, hn⟩ : ∃ n, n = LL.length := ⟨_, rfl⟩
      have HN := hide hn
      rw [← hn] at h60i hl60 ⊢
      have hz1 := hb1.size
      have hTb1 := (unhide HTB).below hb1 hT
      obtain ⟨V, hV⟩ : ∃ W, W = w1.alloc (Obj.cells #[.int .i64 0, .slice none 0 0] 50) := ⟨_, rfl⟩
      have bV : Below w1.heap.size w1 V := by rw [hV]; exact below_new _ _
      have sV : SBx V w1.heap.size ⟨0, []⟩ [] (.slice none 0 0) := ⟨by rw [hV]; exact Blk.new0, DsOwn.nil _ _, DistK.nil, by simp⟩
      have tV := htl.below bV (Nat.le_refl _)
      have HTV := hide (hTb1.below bV (Nat.le_trans hT hz1))
      have HSV := hide sV
      have HTXV := hide tV
      have hbV := hb1.trans (bV.mono hz1)
      have hzV : w1.heap.size < V.heap.size := sV.1.lt
      clear hv hb1 htl hn SL hal sV tV bV hTb1
      go_wp2_with fail
      rw [← hV]
      clear hV
      go_loopw [19] (fun ai wr => ∃ (i : Nat) (st : St) (ks : List Value) (v : Value), ai = .int .i64 (i : Int) ∧ i ≤ n ∧ Hid (SBx wr w1.heap.size st ks v) ∧ Hid (txAt wr al w1.heap.size LL) ∧ Hid (runM Pt.partsO i (LL.drop i) st = R) ∧ Below w1.heap.size V wr) (fun ai _ => n - (intOf ai).toNat)
      case atStart => exact ⟨0, ⟨0, []⟩, [], _, rfl, Nat.zero_le _, HSV, HTXV, by show _ = _; rw [List.drop_zero]; exact (unhide HRR).symm, Below.refl _ _⟩
      case round =>
        obtain ⟨i, st, ks, v, rfl, hi, HS, HTX, HRU, hb⟩ := hrel
        have hbs := hb.size
        have bw := hbV.trans (hb.mono hz1)
        by_cases hlt : i < n
        · have hiL : i < LL.length := by rw [← unhide HN]; exact hlt
          obtain ⟨bl, ol, hal, hblB, hcl2⟩ := unhide HTX i hiL
          subst hal
          have TK := hide (implTake w1.heap.size st ks v LL[i] T wr (by omega) ((unhide HTV).below hb (Nat.le_trans hT hz1)) (unhide HS))
          have HRU2 : Hid (R = match lineM st LL[i] with | none => ⟨0, [], ((i + 1 : Nat) : Int)⟩ | some st' => runM Pt.partsO (i + 1) (LL.drop (i + 1)) st') := by
            show _ = _
            rw [← unhide HRU, List.drop_eq_getElem_cons hiL, run_cons]
          generalize LL[i] = ln at hcl2 TK HRU2
          generalize lineM st ln = lo at TK HRU2
          have hx0 : (0 : Int) ≤ (i : Int) := by omega
          have hx1 : (i : Int) < (n : Int) := by omega
          have hblw : bl < wr.heap.size := by omega
          cases lo with
          | none =>
            have hRe : R = ⟨0, [], ((i + 1 : Nat) : Int)⟩ := unhide HRU2
            subst hRe
            go_wp2_with fail
            refine (unhide TK).mono ?_
            rintro e w4 ⟨he, _, h3, h4⟩
            subst he
            have b4 := bw.trans (h3.mono hz1)
            clear h3
            go_wp2
            go_ret3
            exact ⟨⟨_, [], by go_num, DsOwn.nil _ _, DistK.nil⟩, b4⟩
          | some st' =>
            have HRe : Hid (runM Pt.partsO (i + 1) (LL.drop (i + 1)) st' = R) := (unhide HRU2).symm
            go_wp2_with fail
            refine (unhide TK).mono ?_
            rintro e w4 ⟨he, h2, h3, h4⟩
            subst he
            obtain ⟨ks', v', hS'⟩ := h2 st' rfl
            have b4 := hb.trans h3
            have HS4 := hide hS'
            have HT4 := hide ((unhide HTX).below h3 (Nat.le_refl _))
            clear h2 h3 hS'
            go_wp2
            go_roundw
            case rel => exact ⟨i + 1, st', ks', v', by go_num, by omega, HS4, HT4, HRe, b4⟩
            case measure => simp [intOf]; omega
        · obtain rfl : i = n := by omega
          have hla : R = if st.s = 0 then ⟨0, [], 1⟩ else ⟨st.s, st.d, 0⟩ := by
            rw [← unhide HRU, List.drop_of_length_le (by rw [← unhide HN]; exact Nat.le_refl _), runM_nil]
          have q0 : wr.cell? ⟨w1.heap.size, 0, none⟩ = some (.int .i64 (st.s : Int)) := (unhide HS).1.cell 0 _ rfl
          have q1 : wr.cell? ⟨w1.heap.size, 1, none⟩ = some v := (unhide HS).1.cell 1 _ rfl
          have hzr := (unhide HS).1.lt
          by_cases hs0 : st.s = 0
          · rw [if_pos hs0] at hla
            subst hla
            have hs0i : ((st.s : Int) == 0) = true := by rw [beq_iff_eq]; omega
            go_wp2
            go_ret3
            exact ⟨⟨_, [], rfl, DsOwn.nil _ _, DistK.nil⟩, bw⟩
          · rw [if_neg hs0] at hla
            subst hla
            have hs0i : ((st.s : Int) == 0) = false := by rw [beq_eq_false_iff_ne]; omega
            obtain ⟨av, cv, hv⟩ := (unhide HS).2.1.shape
            subst hv
            have HF := hide (And.intro ((unhide HS).2.1.lower (show w.heap.size ≤ w1.heap.size + 1 by omega)) (unhide HS).2.2.1)
            go_wp2_with fail
            go_region
            go_wp2_with fail
            go_ret3
            exact ⟨⟨_, ks, rfl, (unhide HF).1.below (Below.refl _ _).drew, (unhide HF).2⟩, bw.drew⟩

end Sc
end Go.Proofs.YtjhnippfepbjmaaGreatDoor

/-
  The walk of laws.FnExactReadScript.
-/
namespace Go.Proofs.YtjhnippfepbjmaaGreatDoor
namespace Sc
open Go.RowKit
open Gr (DeedI own_below own_lower InOwn InAt InBlk DeAt Blk Kept below_new dsize deedOk)

def Small (D : List (DeedI × List Int)) : Prop := D.length ≤ 40 ∧ ∀ d ∈ D, deedOk d.1 d.2 = true

theorem deedOf_ok {c : Bool} {s o p : Int} {K : List Int} {q : List ByteArray} {d : DeedI × List Int} (h : deedOf c s o p K q = some d) : deedOk d.1 d.2 = true := by
  unfold deedOf at h
  split at h
  · cases h
  · split at h
    · cases h
      assumption
    · cases h

theorem powM_ok {s o p : Int} {q : List ByteArray} {d : DeedI × List Int} (h : powM s o p q = some d) : deedOk d.1 d.2 = true := by
  unfold powM at h
  split at h
  · cases h
  · split at h
    · split at h
      · cases h
      · exact deedOf_ok h
    · exact deedOf_ok h

theorem deedM_ok {q : List ByteArray} {d : DeedI × List Int} (h : deedM q = some d) : deedOk d.1 d.2 = true := by
  unfold deedM at h
  split at h
  · cases h
  · split at h
    · split at h
      · exact powM_ok h
      · cases h
    · exact deedOf_ok h

theorem tellM_small {st st' : St} {p : List ByteArray} (h : Small st.d) (e : tellM st p = some st') : Small st'.d := by
  unfold tellM at e
  split at e
  · cases hh : hallM p with
    | none => rw [hh] at e; cases e
    | some n => rw [hh] at e; cases e; exact h
  · split at e
    · cases e
    · rename_i d hd
      split at e
      · cases e
        refine ⟨by simp; omega, fun x hx => ?_⟩
        rcases List.mem_append.1 hx with hx | hx
        · exact h.2 x hx
        · simp at hx
          subst hx
          exact deedM_ok hd
      · cases e

theorem partM_small {st st' : St} {p : List ByteArray} (h : Small st.d) (e : partM st p = some st') : Small st'.d := by
  unfold partM at e
  split at e
  · cases e; exact h
  · split at e
    · cases e; exact h
    · exact tellM_small h e

theorem runM_small (P : ByteArray → Option (List ByteArray)) : ∀ (L : List ByteArray) (i : Nat) (st : St), Small st.d → Small (runM P i L st).d
  | [], i, st, h => by
    unfold runM
    split
    · exact ⟨by simp, fun d hd => by simp at hd⟩
    · exact h
  | l :: r, i, st, h => by
    unfold runM
    split
    · exact ⟨by simp, fun d hd => by simp at hd⟩
    · split
      · exact ⟨by simp, fun d hd => by simp at hd⟩
      · rename_i st' hp
        exact runM_small P r (i + 1) st' (partM_small h hp)

theorem script_small (P : ByteArray → Option (List ByteArray)) (t : ByteArray) : Small (scriptM P t).d := by
  unfold scriptM
  split
  · exact ⟨by simp, fun d hd => by simp at hd⟩
  · split
    · exact ⟨by simp, fun d hd => by simp at hd⟩
    · exact runM_small P _ _ _ ⟨by simp, fun d hd => by simp at hd⟩

theorem deedOk_le {x : DeedI} {K : List Int} (h : deedOk x K = true) : x.T.size ≤ 40 ∧ K.length ≤ 60 := by
  unfold deedOk at h
  simp at h
  omega

set_option maxRecDepth 100000 in
set_option maxHeartbeats 4000000 in
theorem script_walk (x0 : ByteArray) (w : World) (HT : Hid (Tb w.heap.size w)) :
    Calls Tryz.prog 3 #[.string x0] w fun e w' => e = .returned (.bool true) ∧ Below w.heap.size w w' := by
  by_cases hbig0 : (1048576 : Int) < (x0.size : Int)
  · go_enter Tryz.func3, Tryz.ntmps3
    go_wp2
    go_ret
    exact ⟨rfl, Below.refl _ _⟩
  · have hsm0 : x0.size ≤ 1048576 := by omega
    have SP := hide (fun w1 => specScript x0 hsm0 w1)
    have IM := hide (fun w1 (hb : Below w.heap.size w w1) => implScript x0 hsm0 w.heap.size w1 hb.size ((unhide HT).below hb (Nat.le_refl _)))
    obtain ⟨hl, hok⟩ := script_small Pt.partsO x0
    generalize scriptM Pt.partsO x0 = R at SP IM hl hok
    obtain ⟨s, D, f⟩ := R
    simp only at hl hok
    have hds : ∀ d ∈ D, dsize d.1 d.2 ≤ 1048576 := fun d hd => by
      have := deedOk_le (hok d hd)
      unfold dsize
      omega
    have hof : 1 + offD D D.length ≤ 100000000 := by
      have := offD_most D 60 (fun d hd => (deedOk_le (hok d hd)).2)
      omega
    have EQ := hide (fun w1 B B' v u ks ls (h : DsOwn w1 B v ks D) (h' : DsOwn w1 B' u ls D) => eqDeedS_any v u ks ls B B' D (by omega) hds w1 h h')
    have MK := hide (fun w1 B v ks (hd : DistK ks) (h : DsOwn w1 B v ks D) => markDeedS_any v ks B 1 D hof hd w1 h)
    have HE := hide (fun w1 B v ks (h : DsOwn w1 B v ks (mixD 1 D D.length)) => heldDeedS_any v ks B 1 D hof w1 h)
    have hne1 : (((s : Nat) : Int) != ((s : Nat) : Int)) = false := by simp
    have hne2 : (f != f) = false := by simp
    generalize mixD 1 D D.length = Dm at MK HE
    generalize 1 + offD D D.length = km at MK HE
    have hkr : ¬ ((km : Nat) : Int) < 0 := by omega
    have hkq : (((km : Nat) : Int) != ((km : Nat) : Int)) = false := by simp
    clear hof hds hl hok
    go_enter Tryz.func3, Tryz.ntmps3
    go_wp2_with fail
    refine (unhide SP w).mono ?_
    rintro e u1 ⟨⟨v1, ks1, rfl, ho1, _⟩, hb1⟩
    have HO1 := hide ho1
    clear ho1
    go_wp2_with fail
    refine (unhide IM u1 hb1).mono ?_
    rintro e u2 ⟨⟨v2, ks2, rfl, ho2, hd2⟩, hb2⟩
    have HD2 := hide hd2
    have HO2 := hide ho2
    clear ho2 hd2
    go_wp2_with fail
    refine (unhide EQ u2 _ _ _ _ _ _ (unhide HO2) ((unhide HO1).below hb2)).mono ?_
    rintro e u3 ⟨rfl, hb3⟩
    have b13 := hb2.trans (hb3.mono hb2.size)
    have HO3 := hide ((unhide HO2).below hb3)
    clear hb3
    go_wp2_with fail
    refine (unhide MK u3 _ _ _ (unhide HD2) (unhide HO3)).mono ?_
    rintro e u4 ⟨rfl, ho4, hk4⟩
    have b14 := b13.trans (hk4.below b13.size (fun g hg => (unhide HO3).blk g hg))
    have HO4 := hide ho4
    clear hk4 ho4 b13
    go_wp2_with fail
    refine (unhide HE u4 _ _ _ (unhide HO4)).mono ?_
    rintro e u5 ⟨rfl, hb5⟩
    have b15 := b14.trans (hb5.mono b14.size)
    have HO5 := hide ((unhide HO4).below hb5)
    clear hb5 b14
    have hbw5 := hb1.trans (b15.mono hb1.size)
    go_wp2_with fail
    refine (unhide IM u5 hbw5).mono ?_
    rintro e u6 ⟨⟨v6, ks6, rfl, ho6, _⟩, hb6⟩
    have b16 := b15.trans (hb6.mono b15.size)
    have HO6 := hide ho6
    have HO56 := hide ((unhide HO5).below hb6)
    clear ho6 hb6 b15 hbw5
    go_wp2_with fail
    refine (unhide EQ u6 _ _ _ _ _ _ (unhide HO6) ((unhide HO1).below b16)).mono ?_
    rintro e u7 ⟨rfl, hb7⟩
    have b17 := b16.trans (hb7.mono b16.size)
    have HO7 := hide ((unhide HO56).below hb7)
    clear hb7 b16
    go_wp2_with fail
    refine (unhide HE u7 _ _ _ (unhide HO7)).mono ?_
    rintro e u8 ⟨rfl, hb8⟩
    have b18 := b17.trans (hb8.mono b17.size)
    have hbw8 := hb1.trans (b18.mono hb1.size)
    clear hb8 b17
    go_wp2
    go_ret
    exact ⟨rfl, hbw8⟩

end Sc
end Go.Proofs.YtjhnippfepbjmaaGreatDoor
