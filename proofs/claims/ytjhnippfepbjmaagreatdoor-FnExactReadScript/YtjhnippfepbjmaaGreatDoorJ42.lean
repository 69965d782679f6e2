/-
  Texts of this claim, one behind the other: Si6, Si7.
-/
import Derived.Test.YtjhnippfepbjmaaGreatDoorJ41
import Derived.Test.YtjhnippfepbjmaaGreatDoorJ15

/-
  The program's power: strings.Split at commas, and impl.powerOf.
-/
namespace Go.Proofs.YtjhnippfepbjmaaGreatDoor
namespace Sc
open Go.RowKit
open Gr (own_below own_lower InOwn InAt Blk Kept below_new DeedI)

set_option maxRecDepth 100000 in
theorem implSplit (s : ByteArray) (hs : s.size ≤ 400) (T : Nat) (w : World) (ht : Tb T w) :
    Calls Tryz.prog 66 #[.string s, .string ⟨#[44]⟩] w fun e w' => (∃ a c, e = .returned (.slice a (pieces s).length c) ∧ txAt w' a w'.heap.size (pieces s)) ∧ Below w.heap.size w w' := by
  obtain ⟨m, hm⟩ := ht.here.2.2
  have hcl : Lib.countB s ⟨#[44]⟩ ≤ s.size := by
    show Lib.count s.data.toList [44] ≤ _
    rw [Lib.count_one]
    have := List.count_le_length (a := (44 : UInt8)) (l := s.data.toList)
    simpa using this
  have GS := Tryz.strings_genSplit s ⟨#[44]⟩ 0 (-1) (Lib.countB s ⟨#[44]⟩ + 1) m w (by omega) hm (by decide) (by decide) (by decide) (by decide) (by rw [if_pos (by decide)]; omega)
  rw [Nat.add_sub_cancel, pieces_is] at GS
  have HG := hide GS
  generalize Lib.countB s ⟨#[44]⟩ + 1 = N at HG
  generalize pieces s = P at HG
  clear GS hm
  go_enter Tryz.func66, Tryz.ntmps66
  go_wp2_with fail
  refine (unhide HG).mono ?_
  rintro e w1 ⟨rfl, rfl⟩
  have hb := below_new w (Obj.cells (Lib.cellsOf P N) 9)
  have HT : Hid (txAt (w.alloc (Obj.cells (Lib.cellsOf P N) 9)) (some ⟨w.heap.size, 0, none⟩) (w.alloc (Obj.cells (Lib.cellsOf P N) 9)).heap.size P) := fun j hj => ⟨w.heap.size, 0, rfl, by simp, by
    have hB : Blk (w.alloc (Obj.cells (Lib.cellsOf P N) 9)) w.heap.size (Lib.cellsOf P N) 9 := Blk.new0
    rw [Nat.zero_add]
    refine hB.cell j _ ?_
    unfold Lib.cellsOf
    simp [List.getElem?_append_left, hj]⟩
  go_wp2
  go_ret
  exact ⟨⟨_, _, rfl, unhide HT⟩, hb⟩

/-- What powerOf hands back of a line that begins with power. -/
def PwPost (B : Nat) (w w' : World) (e : Ending) (L : List ByteArray) : Prop :=
  ∃ (cu : Bool) (s o p : Int) (ka : Option Addr) (kn kc : Nat) (al : Option Addr) (cl : Nat) (q : List ByteArray) (ok : Bool),
    e = .returned (.tuple #[.agg #[.string ⟨#[]⟩, .bool cu, .int .i64 s, .slice ka kn kc, .int .i64 o, .int .i64 p], .slice al q.length cl, .bool ok]) ∧ txAt w' al B q ∧ q.length ≤ 8 ∧ q.length ≤ cl ∧ (∀ y ∈ q, y.size ≤ 400) ∧
    (ok = false → deedM L = none) ∧ (ok = true → ∃ K, kn = K.length ∧ InOwn w' w.heap.size (.slice ka kn kc) K ∧ K.length ≤ 1000 ∧ deedM L = deedOf cu s o p K q)

theorem results_deed3 {fn : Func} {p u v : Tmp} (h : fn.results = #[.cell p 46, .tmp u, .tmp v]) (tmps : Array Value) (w : World) (g : Nat) (x0 x1 x2 x3 x4 x5 : Value) (hp : tmps.getD p undef = .pointer (some ⟨g, 0, none⟩)) (hg : Blk w g #[x0, x1, x2, x3, x4, x5] 46) :
    (results fn tmps).run Tryz.prog w = .ok (.tuple #[.agg #[x0, x1, x2, x3, x4, x5], tmps.getD u undef, tmps.getD v undef]) w := by
  have c0 := hg.cell 0 x0 rfl
  have c1 := hg.cell 1 x1 rfl
  have c2 := hg.cell 2 x2 rfl
  have c3 := hg.cell 3 x3 rfl
  have c4 := hg.cell 4 x4 rfl
  have c5 := hg.cell 5 x5 rfl
  have hp' : tmps[p]?.getD undef = .pointer (some ⟨g, 0, none⟩) := by simpa using hp
  simp [results, h, hp', go_sem, c0, c1, c2, c3, c4, c5]

theorem pow_nil (a b c : Int) : powM a b c [] = deedOf true a b c [] [] := rfl

set_option maxRecDepth 100000 in
set_option maxHeartbeats 8000000 in
theorem implPower (x : ByteArray) (r : List ByteArray) (hP : isPow x = true) (b off c B T : Nat) (hL : r.length ≤ 7) (hc : r.length + 1 ≤ c) (hsz : ∀ y ∈ x :: r, 0 < y.size ∧ y.size ≤ 400) (w : World) (hB : B ≤ w.heap.size) (h : txAt w (some ⟨b, off, none⟩) B (x :: r)) (hT : T ≤ w.heap.size) (ht : Tb T w) :
    Calls Tryz.prog 54 #[.slice (some ⟨b, off, none⟩) (r.length + 1) c] w fun e w' => PwPost B w w' e (x :: r) ∧ Below w.heap.size w w' := by
  obtain ⟨V, hV⟩ : ∃ W, W = w.alloc (Obj.cells #[.string ⟨#[]⟩, .bool false, .int .i64 0, .slice none 0 0, .int .i64 0, .int .i64 0] 46) := ⟨_, rfl⟩
  have bV : Below w.heap.size w V := by rw [hV]; exact below_new _ _
  have r0 : Blk V w.heap.size #[.string ⟨#[]⟩, .bool false, .int .i64 0, .slice none 0 0, .int .i64 0, .int .i64 0] 46 := by rw [hV]; exact Blk.new0
  have hz := r0.lt
  have HPW := hide hP
  have HTX := hide h
  have HSZ := hide hsz
  have HTB := hide ht
  obtain ⟨n, hn⟩ : ∃ n, n = r.length := ⟨_, rfl⟩
  have HN := hide hn
  rw [← hn] at hL hc ⊢
  clear h hsz ht hn hP
  by_cases h3 : n < 3
  · have h3i : (n : Int) + 1 < 4 := by omega
    go_enter Tryz.func54, Tryz.ntmps54
    go_upto_region 1 with fail
    rw [← hV]
    clear hV
    have z0 : V.cell? ⟨w.heap.size, 0, none⟩ = some (.string ⟨#[]⟩) := r0.cell 0 _ rfl
    have z1 : V.cell? ⟨w.heap.size, 1, none⟩ = some (.bool false) := r0.cell 1 _ rfl
    have z2 : V.cell? ⟨w.heap.size, 2, none⟩ = some (.int .i64 0) := r0.cell 2 _ rfl
    have z3 : V.cell? ⟨w.heap.size, 3, none⟩ = some (.slice none 0 0) := r0.cell 3 _ rfl
    have z4 : V.cell? ⟨w.heap.size, 4, none⟩ = some (.int .i64 0) := r0.cell 4 _ rfl
    have z5 : V.cell? ⟨w.heap.size, 5, none⟩ = some (.int .i64 0) := r0.cell 5 _ rfl
    have zf := r0.froz
    have HR := hide ((((((r0.set 0 (.string ⟨#[]⟩)).set 1 (.bool false)).set 2 (.int .i64 0)).set 3 (.slice none 0 0)).set 4 (.int .i64 0)).set 5 (.int .i64 0))
    have HB9 := hide ((((((bV.setCell (p := ⟨w.heap.size, 0, none⟩) (Nat.le_refl _) (.string ⟨#[]⟩)).setCell (p := ⟨w.heap.size, 1, none⟩) (Nat.le_refl _) (.bool false)).setCell (p := ⟨w.heap.size, 2, none⟩) (Nat.le_refl _) (.int .i64 0)).setCell (p := ⟨w.heap.size, 3, none⟩) (Nat.le_refl _) (.slice none 0 0)).setCell (p := ⟨w.heap.size, 4, none⟩) (Nat.le_refl _) (.int .i64 0)).setCell (p := ⟨w.heap.size, 5, none⟩) (Nat.le_refl _) (.int .i64 0))
    clear r0 bV
    go_wp2_with fail
    (try simp only [Exit.inBlock, Exit.then])
    refine bodyPost_ret (results_deed3 Tryz.results54 _ _ w.heap.size _ _ _ _ _ _ rfl (unhide HR)) rfl ?_
    exact ⟨⟨false, 0, 0, 0, none, 0, 0, none, 0, [], false, rfl, txAt.nil _ _ _, by simp, by simp, by simp, fun _ => deed_short (unhide HPW) (by rw [← unhide HN]; omega), fun h => by cases h⟩, unhide HB9⟩
  · have h3i : ¬ (n : Int) + 1 < 4 := by omega
    have hr3 : 3 ≤ r.length := by rw [← unhide HN]; omega
    have hl3 : (r.take 3).length = 3 := by rw [List.length_take]; omega
    have t3 : txAt V (some ⟨b, off + 1, none⟩) B (r.take 3) := fun j hj => by
      obtain ⟨b', off', e, h1, hcx⟩ := ((unhide HTX).below bV hB) (j + 1) (by rw [hl3] at hj; simp; omega)
      simp only [Option.some.injEq, Addr.mk.injEq, and_true] at e
      obtain ⟨rfl, rfl⟩ := e
      refine ⟨_, _, rfl, h1, ?_⟩
      rw [List.getElem_take, show off + 1 + j = off + (j + 1) by omega]
      simpa using hcx
    have NR := implNumbers (some ⟨b, off + 1, none⟩) (c - 1) B T (r.take 3) (by omega) V (Nat.le_trans hB bV.size) t3 (Nat.le_trans hT bV.size) ((unhide HTB).below bV hT)
    rw [hl3] at NR
    have HNR := hide NR
    have HNL : Hid (∀ K, numsM (r.take 3) = some K → K.length = 3) := fun K h => by rw [numsM_length h]; exact hl3
    have HN0 : Hid (numsM (r.take 3) = none → deedM (x :: r) = none) := fun h => deed_nums (unhide HPW) h
    have HN1 : Hid (∀ a b c, numsM (r.take 3) = some [a, b, c] → deedM (x :: r) = powM a b c (r.drop 3)) := fun a b c h => deed_pow (unhide HPW) h
    generalize numsM (r.take 3) = no at HNR HNL HN0 HN1
    have hx1 : (4 : Int) ≤ (n : Int) + 1 := by omega
    have hc1 : ¬ c = 1 := by omega
    have hci : (4 : Int) ≤ (c : Int) := by omega
    clear NR t3 hl3
    go_enter Tryz.func54, Tryz.ntmps54
    go_wp2_with fail
    rw [← hV]
    clear hV
    refine (unhide HNR).mono ?_
    rintro e w1 ⟨⟨v1, rfl, ho1⟩, hb1⟩
    have r1 := r0.below hb1
    have b1 := bV.trans (hb1.mono bV.size)
    have zV1 := hb1.size
    cases no with
    | none =>
      have HD := hide (unhide HN0 rfl)
      clear ho1 r0 bV
      have z0 : w1.cell? ⟨w.heap.size, 0, none⟩ = some (.string ⟨#[]⟩) := r1.cell 0 _ rfl
      have z1 : w1.cell? ⟨w.heap.size, 1, none⟩ = some (.bool false) := r1.cell 1 _ rfl
      have z2 : w1.cell? ⟨w.heap.size, 2, none⟩ = some (.int .i64 0) := r1.cell 2 _ rfl
      have z3 : w1.cell? ⟨w.heap.size, 3, none⟩ = some (.slice none 0 0) := r1.cell 3 _ rfl
      have z4 : w1.cell? ⟨w.heap.size, 4, none⟩ = some (.int .i64 0) := r1.cell 4 _ rfl
      have z5 : w1.cell? ⟨w.heap.size, 5, none⟩ = some (.int .i64 0) := r1.cell 5 _ rfl
      have zf := r1.froz
      have HR := hide ((((((r1.set 0 (.string ⟨#[]⟩)).set 1 (.bool false)).set 2 (.int .i64 0)).set 3 (.slice none 0 0)).set 4 (.int .i64 0)).set 5 (.int .i64 0))
      have HB9 := hide ((((((b1.setCell (p := ⟨w.heap.size, 0, none⟩) (Nat.le_refl _) (.string ⟨#[]⟩)).setCell (p := ⟨w.heap.size, 1, none⟩) (Nat.le_refl _) (.bool false)).setCell (p := ⟨w.heap.size, 2, none⟩) (Nat.le_refl _) (.int .i64 0)).setCell (p := ⟨w.heap.size, 3, none⟩) (Nat.le_refl _) (.slice none 0 0)).setCell (p := ⟨w.heap.size, 4, none⟩) (Nat.le_refl _) (.int .i64 0)).setCell (p := ⟨w.heap.size, 5, none⟩) (Nat.le_refl _) (.int .i64 0))
      clear r1 b1
      go_wp2_with fail
      (try simp only [Exit.inBlock, Exit.then])
      refine bodyPost_ret (results_deed3 Tryz.results54 _ _ w.heap.size _ _ _ _ _ _ rfl (unhide HR)) rfl ?_
      exact ⟨⟨false, 0, 0, 0, none, 0, 0, none, 0, [], false, rfl, txAt.nil _ _ _, by simp, by simp, by simp, fun _ => unhide HD, fun h => by cases h⟩, unhide HB9⟩
    | some K0 =>
      obtain ⟨a0, a1, a2, rfl⟩ := three_of (unhide HNL K0 rfl)
      have HDP := hide (unhide HN1 a0 a1 a2 rfl)
      simp only [Option.getD_some, Option.isSome_some] at ho1 ⊢
      obtain ⟨gq, cq, hA, hgq, hgl⟩ := ho1.form (by simp)
      subst hA
      simp only [List.length_cons, List.length_nil, Nat.zero_add] at ho1 ⊢
      have l0 : w1.cell? ⟨gq, 0, none⟩ = some (.int .i64 a0) := ho1.cellAt 0 (by omega)
      have l1 : w1.cell? ⟨gq, 1, none⟩ = some (.int .i64 a1) := ho1.cellAt 1 (by omega)
      have l2 : w1.cell? ⟨gq, 2, none⟩ = some (.int .i64 a2) := ho1.cellAt 2 (by omega)
      clear HNR HN0 HN1 HNL ho1 r0 bV
      go_wp2_with fail
      go_region_held3 (fun u => u.cell? ⟨gq, 0, none⟩ = some (.int .i64 a0) ∧ u.cell? ⟨gq, 1, none⟩ = some (.int .i64 a1) ∧ u.cell? ⟨gq, 2, none⟩ = some (.int .i64 a2))
        (first | go_keep) (first | fail)
      obtain ⟨W2, hW2⟩ : ∃ W, W = (w1.alloc (Obj.cells #[.string ⟨#[]⟩, .bool true, .int .i64 a0, .slice none 0 0, .int .i64 a1, .int .i64 a2] 46)).drew := ⟨_, rfl⟩
      rw [← hW2]
      have b12 : Below w1.heap.size w1 W2 := by rw [hW2]; exact (below_new _ _).drew
      have d2 : Blk W2 w1.heap.size #[.string ⟨#[]⟩, .bool true, .int .i64 a0, .slice none 0 0, .int .i64 a1, .int .i64 a2] 46 := by rw [hW2]; exact Blk.new0.drew
      have r2 := r1.below b12
      have bw2 := b1.trans (b12.mono b1.size)
      have t2 := (unhide HTX).below bw2 hB
      have hzD : w.heap.size < w1.heap.size := by omega
      have hzD2 := d2.lt
      clear hW2 r1 b1 b12 l0 l1 l2
      by_cases hn3 : n = 3
      · subst hn3
        have hdr : r.drop 3 = [] := List.drop_of_length_le (by rw [← unhide HN]; exact Nat.le_refl _)
        have HD3 : Hid (deedM (x :: r) = deedOf true a0 a1 a2 [] []) := by show _ = _; rw [unhide HDP, hdr, pow_nil]
        have HNIL := hide (in_nil W2 (w.heap.size + 1))
        have HT0 := hide (txAt.nil W2 (some ⟨b, off, none⟩) B)
        have HT1 := hide (txAt.nil W2 (some ⟨b, off + 4, none⟩) B)
        clear t2 hdr
        by_cases hc4 : c = 4
        · subst hc4
          have e0 : W2.cell? ⟨w1.heap.size, 0, none⟩ = some (.string ⟨#[]⟩) := d2.cell 0 _ rfl
          have e1 : W2.cell? ⟨w1.heap.size, 1, none⟩ = some (.bool true) := d2.cell 1 _ rfl
          have e2 : W2.cell? ⟨w1.heap.size, 2, none⟩ = some (.int .i64 a0) := d2.cell 2 _ rfl
          have e3 : W2.cell? ⟨w1.heap.size, 3, none⟩ = some (.slice none 0 0) := d2.cell 3 _ rfl
          have e4 : W2.cell? ⟨w1.heap.size, 4, none⟩ = some (.int .i64 a1) := d2.cell 4 _ rfl
          have e5 : W2.cell? ⟨w1.heap.size, 5, none⟩ = some (.int .i64 a2) := d2.cell 5 _ rfl
          have z0 : W2.cell? ⟨w.heap.size, 0, none⟩ = some (.string ⟨#[]⟩) := r2.cell 0 _ rfl
          have z1 : W2.cell? ⟨w.heap.size, 1, none⟩ = some (.bool false) := r2.cell 1 _ rfl
          have z2 : W2.cell? ⟨w.heap.size, 2, none⟩ = some (.int .i64 0) := r2.cell 2 _ rfl
          have z3 : W2.cell? ⟨w.heap.size, 3, none⟩ = some (.slice none 0 0) := r2.cell 3 _ rfl
          have z4 : W2.cell? ⟨w.heap.size, 4, none⟩ = some (.int .i64 0) := r2.cell 4 _ rfl
          have z5 : W2.cell? ⟨w.heap.size, 5, none⟩ = some (.int .i64 0) := r2.cell 5 _ rfl
          have zf := r2.froz
          have zd := d2.lt
          have ks : ∀ (W' : World) (j : Nat) (v : Value), Kept (fun k => k = w.heap.size) W' (W'.setCell ⟨w.heap.size, j, none⟩ v) := fun W' j v => Kept.set (S := fun k => k = w.heap.size) W' w.heap.size j v rfl
          have HKK := hide ((((((ks W2 0 (.string ⟨#[]⟩)).trans (ks _ 1 (.bool true))).trans (ks _ 2 (.int .i64 a0))).trans (ks _ 3 (.slice none 0 0))).trans (ks _ 4 (.int .i64 a1))).trans (ks _ 5 (.int .i64 a2)))
          have HR := hide ((((((r2.set 0 (.string ⟨#[]⟩)).set 1 (.bool true)).set 2 (.int .i64 a0)).set 3 (.slice none 0 0)).set 4 (.int .i64 a1)).set 5 (.int .i64 a2))
          have HB9 := hide (bw2.trans ((unhide HKK).below bw2.size (fun i hi => by omega)))
          have HTQ := hide ((unhide HT0).below ((unhide HKK).below (B := w.heap.size) bw2.size (fun i hi => by omega)) hB)
          have HOW := hide (InOwn.lower (B := w.heap.size + 1) (Gr.InOwn.kept (unhide HNIL) (unhide HKK) (fun g hg e => by have := (Gr.InOwn.blk (unhide HNIL) g hg).1; omega)) (by omega) : InOwn _ w.heap.size (.slice none 0 0) [])
          clear d2 r2 bw2 ks
          go_wp2_with fail
          (try simp only [Exit.inBlock, Exit.then])
          refine bodyPost_ret (results_deed3 Tryz.results54 _ _ w.heap.size _ _ _ _ _ _ rfl (unhide HR)) rfl ?_
          exact ⟨⟨true, a0, a1, a2, _, _, _, _, _, [], true, rfl, unhide HTQ, by simp, by simp, by simp, (fun h => by cases h), (fun _ => ⟨[], rfl, unhide HOW, by simp, unhide HD3⟩)⟩, unhide HB9⟩
        · have hc4i : ¬ c = 4 := hc4
          have e0 : W2.cell? ⟨w1.heap.size, 0, none⟩ = some (.string ⟨#[]⟩) := d2.cell 0 _ rfl
          have e1 : W2.cell? ⟨w1.heap.size, 1, none⟩ = some (.bool true) := d2.cell 1 _ rfl
          have e2 : W2.cell? ⟨w1.heap.size, 2, none⟩ = some (.int .i64 a0) := d2.cell 2 _ rfl
          have e3 : W2.cell? ⟨w1.heap.size, 3, none⟩ = some (.slice none 0 0) := d2.cell 3 _ rfl
          have e4 : W2.cell? ⟨w1.heap.size, 4, none⟩ = some (.int .i64 a1) := d2.cell 4 _ rfl
          have e5 : W2.cell? ⟨w1.heap.size, 5, none⟩ = some (.int .i64 a2) := d2.cell 5 _ rfl
          have z0 : W2.cell? ⟨w.heap.size, 0, none⟩ = some (.string ⟨#[]⟩) := r2.cell 0 _ rfl
          have z1 : W2.cell? ⟨w.heap.size, 1, none⟩ = some (.bool false) := r2.cell 1 _ rfl
          have z2 : W2.cell? ⟨w.heap.size, 2, none⟩ = some (.int .i64 0) := r2.cell 2 _ rfl
          have z3 : W2.cell? ⟨w.heap.size, 3, none⟩ = some (.slice none 0 0) := r2.cell 3 _ rfl
          have z4 : W2.cell? ⟨w.heap.size, 4, none⟩ = some (.int .i64 0) := r2.cell 4 _ rfl
          have z5 : W2.cell? ⟨w.heap.size, 5, none⟩ = some (.int .i64 0) := r2.cell 5 _ rfl
          have zf := r2.froz
          have zd := d2.lt
          have ks : ∀ (W' : World) (j : Nat) (v : Value), Kept (fun k => k = w.heap.size) W' (W'.setCell ⟨w.heap.size, j, none⟩ v) := fun W' j v => Kept.set (S := fun k => k = w.heap.size) W' w.heap.size j v rfl
          have HKK := hide ((((((ks W2 0 (.string ⟨#[]⟩)).trans (ks _ 1 (.bool true))).trans (ks _ 2 (.int .i64 a0))).trans (ks _ 3 (.slice none 0 0))).trans (ks _ 4 (.int .i64 a1))).trans (ks _ 5 (.int .i64 a2)))
          have HR := hide ((((((r2.set 0 (.string ⟨#[]⟩)).set 1 (.bool true)).set 2 (.int .i64 a0)).set 3 (.slice none 0 0)).set 4 (.int .i64 a1)).set 5 (.int .i64 a2))
          have HB9 := hide (bw2.trans ((unhide HKK).below bw2.size (fun i hi => by omega)))
          have HTQ := hide ((unhide HT1).below ((unhide HKK).below (B := w.heap.size) bw2.size (fun i hi => by omega)) hB)
          have HOW := hide (InOwn.lower (B := w.heap.size + 1) (Gr.InOwn.kept (unhide HNIL) (unhide HKK) (fun g hg e => by have := (Gr.InOwn.blk (unhide HNIL) g hg).1; omega)) (by omega) : InOwn _ w.heap.size (.slice none 0 0) [])
          clear d2 r2 bw2 ks
          go_wp2_with fail
          (try simp only [Exit.inBlock, Exit.then])
          refine bodyPost_ret (results_deed3 Tryz.results54 _ _ w.heap.size _ _ _ _ _ _ rfl (unhide HR)) rfl ?_
          exact ⟨⟨true, a0, a1, a2, _, _, _, _, _, [], true, rfl, unhide HTQ, by simp, by simp, by simp, (fun h => by cases h), (fun _ => ⟨[], rfl, unhide HOW, by simp, unhide HD3⟩)⟩, unhide HB9⟩
      · obtain ⟨m, rfl⟩ : ∃ m, n = m + 4 := ⟨n - 4, by omega⟩
        have hc4 : ¬ c = 4 := by omega
        have hr3' : 3 < r.length := by rw [← unhide HN]; omega
        have hdr : r.drop 3 = r[3] :: r.drop 4 := List.drop_eq_getElem_cons hr3'
        have hq4 : (r.drop 4).length = m := by rw [List.length_drop, ← unhide HN]; omega
        have hysz := unhide HSZ r[3] (List.mem_cons_of_mem _ (List.getElem_mem hr3'))
        have hqsz : ∀ y ∈ r.drop 4, y.size ≤ 400 := fun y hy => (unhide HSZ y (List.mem_cons_of_mem _ (List.mem_of_mem_drop hy))).2
        have hcy : W2.cell? ⟨b, off + 4, none⟩ = some (.string r[3]) := by
          obtain ⟨b', off', e, _, hcx⟩ := t2 4 (by simp; omega)
          simp only [Option.some.injEq, Addr.mk.injEq, and_true] at e
          obtain ⟨rfl, rfl⟩ := e
          simpa using hcx
        have hbB : b < B := by
          obtain ⟨b', off', e, h1, _⟩ := t2 4 (by simp; omega)
          simp only [Option.some.injEq, Addr.mk.injEq, and_true] at e
          obtain ⟨rfl, rfl⟩ := e
          exact h1
        have t5 : txAt W2 (some ⟨b, off + 4, none⟩) B (r[3] :: r.drop 4) := by
          have h1 := t2.drop 4 (c := c) (by rw [List.length_cons, ← unhide HN]; omega)
          rw [if_neg hc4, List.drop_succ_cons, hdr] at h1
          exact h1
        have t6 : txAt W2 (some ⟨b, off + 4 + 1, none⟩) B (r.drop 4) := by
          have h1 := t5.drop 1 (c := r.length + 2) (by rw [List.length_cons, hq4, ← unhide HN]; omega)
          rw [if_neg (by omega)] at h1
          simpa using h1
        rw [hdr] at HDP
        generalize r[3] = y at hysz hcy t5 HDP
        generalize r.drop 4 = q at hq4 t5 t6 HDP hqsz
        have HQ := hide hq4
        have HQS := hide hqsz
        have HT5 := hide t5
        have HT6 := hide t6
        have FG := hide (fun w => implFig y hysz.1 hysz.2 w)
        have hbW : b < W2.heap.size := by have := bw2.size; omega
        have hn4 : (4 : Int) ≤ ((m + 4 : Nat) : Int) + 1 := by omega
        have hm0 : (0 : Int) < (m : Int) + 1 := by omega
        clear t2 t5 t6 hdr hq4 hqsz hr3' HTX
        cases hfg : isFig y with
        | false =>
          rw [hfg] at FG
          have HD3 : Hid (deedM (x :: r) = deedOf true a0 a1 a2 [] (y :: q)) := by show _ = _; rw [unhide HDP, pow_word hfg]
          have HNIL := hide (in_nil W2 (w.heap.size + 1))
          clear hfg
          go_wp2_with fail
          refine (unhide FG W2).mono ?_
          rintro e w3 ⟨rfl, hw3⟩
          subst w3
          clear hcy
          have e0 : W2.cell? ⟨w1.heap.size, 0, none⟩ = some (.string ⟨#[]⟩) := d2.cell 0 _ rfl
          have e1 : W2.cell? ⟨w1.heap.size, 1, none⟩ = some (.bool true) := d2.cell 1 _ rfl
          have e2 : W2.cell? ⟨w1.heap.size, 2, none⟩ = some (.int .i64 a0) := d2.cell 2 _ rfl
          have e3 : W2.cell? ⟨w1.heap.size, 3, none⟩ = some (.slice none 0 0) := d2.cell 3 _ rfl
          have e4 : W2.cell? ⟨w1.heap.size, 4, none⟩ = some (.int .i64 a1) := d2.cell 4 _ rfl
          have e5 : W2.cell? ⟨w1.heap.size, 5, none⟩ = some (.int .i64 a2) := d2.cell 5 _ rfl
          have z0 : W2.cell? ⟨w.heap.size, 0, none⟩ = some (.string ⟨#[]⟩) := r2.cell 0 _ rfl
          have z1 : W2.cell? ⟨w.heap.size, 1, none⟩ = some (.bool false) := r2.cell 1 _ rfl
          have z2 : W2.cell? ⟨w.heap.size, 2, none⟩ = some (.int .i64 0) := r2.cell 2 _ rfl
          have z3 : W2.cell? ⟨w.heap.size, 3, none⟩ = some (.slice none 0 0) := r2.cell 3 _ rfl
          have z4 : W2.cell? ⟨w.heap.size, 4, none⟩ = some (.int .i64 0) := r2.cell 4 _ rfl
          have z5 : W2.cell? ⟨w.heap.size, 5, none⟩ = some (.int .i64 0) := r2.cell 5 _ rfl
          have zf := r2.froz
          have zd := d2.lt
          have ks : ∀ (W' : World) (j : Nat) (v : Value), Kept (fun k => k = w.heap.size) W' (W'.setCell ⟨w.heap.size, j, none⟩ v) := fun W' j v => Kept.set (S := fun k => k = w.heap.size) W' w.heap.size j v rfl
          have HKK := hide ((((((ks W2 0 (.string ⟨#[]⟩)).trans (ks _ 1 (.bool true))).trans (ks _ 2 (.int .i64 a0))).trans (ks _ 3 (.slice none 0 0))).trans (ks _ 4 (.int .i64 a1))).trans (ks _ 5 (.int .i64 a2)))
          have HR := hide ((((((r2.set 0 (.string ⟨#[]⟩)).set 1 (.bool true)).set 2 (.int .i64 a0)).set 3 (.slice none 0 0)).set 4 (.int .i64 a1)).set 5 (.int .i64 a2))
          have HB9 := hide (bw2.trans ((unhide HKK).below bw2.size (fun i hi => by omega)))
          have HTQ := hide ((unhide HT5).below ((unhide HKK).below (B := w.heap.size) bw2.size (fun i hi => by omega)) hB)
          have HOW := hide (InOwn.lower (B := w.heap.size + 1) (Gr.InOwn.kept (unhide HNIL) (unhide HKK) (fun g hg e => by have := (Gr.InOwn.blk (unhide HNIL) g hg).1; omega)) (by omega) : InOwn _ w.heap.size (.slice none 0 0) [])
          clear d2 r2 bw2 ks
          go_wp2_with fail
          (try simp only [Exit.inBlock, Exit.then])
          refine bodyPost_ret (results_deed3 Tryz.results54 _ _ w.heap.size _ _ _ _ _ _ rfl (unhide HR)) rfl ?_
          exact ⟨⟨true, a0, a1, a2, none, 0, 0, some ⟨b, off + 4, none⟩, c - 4, y :: q, true, by rw [List.length_cons, unhide HQ]; rfl, unhide HTQ, by rw [List.length_cons, unhide HQ]; omega, by rw [List.length_cons, unhide HQ]; omega, (fun z hz => by rcases List.mem_cons.1 hz with rfl | hz; exact hysz.2; exact unhide HQS z hz), (fun h => by cases h), (fun _ => ⟨[], rfl, unhide HOW, by simp, unhide HD3⟩)⟩, unhide HB9⟩
        | true =>
          rw [hfg] at FG
          have HP2 : Hid (deedM (x :: r) = (match keepM y with | none => none | some K => deedOf true a0 a1 a2 K q)) := by show _ = _; rw [unhide HDP, pow_fig hfg]; cases keepM y <;> rfl
          have HKL : Hid (∀ K, keepM y = some K → K.length ≤ 1000) := fun K h => by have := keep_len h; omega
          have SPL := hide (implSplit y hysz.2 T W2 ((unhide HTB).below bw2 hT))
          have hpl : (pieces y).length ≤ 401 := by have := pieces_len y y.size 0 0; unfold pieces; omega
          have HNB : Hid (∀ a c W, Below W2.heap.size W2 W → txAt W a W.heap.size (pieces y) → Calls Tryz.prog 52 #[.slice a (pieces y).length c] W fun e w' => InPost W w' e (keepM y) ∧ Below W.heap.size W w') := fun a c W hb h1 => implNumbers a c W.heap.size T (pieces y) (by omega) W (Nat.le_refl _) h1 (by have := bw2.size; have := hb.size; omega) (((unhide HTB).below bw2 hT).below hb (by have := bw2.size; omega))
          generalize keepM y = ko at HP2 HKL HNB
          generalize pieces y = ps at SPL HNB
          clear hfg hpl
          go_wp2_with fail
          refine (unhide FG W2).mono ?_
          rintro e w3 ⟨rfl, hw3⟩
          subst w3
          go_wp2_with fail
          refine (unhide SPL).mono ?_
          rintro e w3 ⟨⟨sa, sc, rfl, hs3⟩, hb3⟩
          have NB := hide (unhide HNB sa sc w3 hb3 hs3)
          have d3 := d2.below hb3
          have r3 := r2.below hb3
          have bw3 := bw2.trans (hb3.mono bw2.size)
          have T63 := hide ((unhide HT6).below (hb3.mono bw2.size) hB)
          have z32 := hb3.size
          clear d2 r2 bw2 hb3 hs3 hcy
          go_wp2_with fail
          refine (unhide NB).mono ?_
          rintro e w4 ⟨⟨v4, rfl, ho4⟩, hb4⟩
          obtain ⟨ka, kc, hv4, _⟩ := Gr.intsAt_of_own ho4
          subst hv4
          have d4 := d3.below hb4
          have r4 := r3.below hb4
          have bw4 := bw3.trans (hb4.mono bw3.size)
          have T64 := hide ((unhide T63).below (hb4.mono bw3.size) hB)
          obtain ⟨K, hK⟩ : ∃ K, K = ko.getD [] := ⟨_, rfl⟩
          rw [← hK] at ho4 ⊢
          have HK := hide hK
          have e3 : w4.cell? ⟨w1.heap.size, 3, none⟩ = some (.slice none 0 0) := d4.cell 3 _ rfl
          have f3 := d4.froz 3
          obtain ⟨W5, hW5⟩ : ∃ W, W = w4.setCell ⟨w1.heap.size, 3, none⟩ (.slice ka K.length kc) := ⟨_, rfl⟩
          have k5 : Kept (fun k => k = w1.heap.size) w4 W5 := by rw [hW5]; exact Kept.set (S := fun k => k = w1.heap.size) _ _ _ _ rfl
          have d5 : Blk W5 w1.heap.size #[.string ⟨#[]⟩, .bool true, .int .i64 a0, .slice ka K.length kc, .int .i64 a1, .int .i64 a2] 46 := by rw [hW5]; exact d4.set 3 _
          have r5 := r4.kept k5 (by omega)
          have bw5 := bw4.trans (k5.below bw4.size (fun i hi => by omega))
          have ho4' : InOwn w4 w3.heap.size (.slice ka K.length kc) K := ho4
          have o5 : InOwn W5 (w.heap.size + 1) (.slice ka K.length kc) K := InOwn.lower (B := w3.heap.size) (ho4'.kept k5 (fun g hg e => by have := (ho4'.blk g hg).1; omega)) (by omega)
          have T65 := hide ((unhide T64).below (k5.below (B := w.heap.size) bw4.size (fun i hi => by omega)) hB)
          have HO5 := hide o5
          have HOKb : Hid (ko.isSome = false → deedM (x :: r) = none) := fun h => by
            cases ko with
            | none => exact unhide HP2
            | some K => cases h
          have HOKt : Hid (ko.isSome = true → K.length ≤ 1000 ∧ deedM (x :: r) = deedOf true a0 a1 a2 K q) := fun h => by
            cases ko with
            | none => cases h
            | some K' =>
              have e : K = K' := unhide HK
              subst e
              exact ⟨unhide HKL K rfl, unhide HP2⟩
          generalize ko.isSome = okb at HOKb HOKt ⊢
          clear d3 r3 bw3 d4 r4 bw4 ho4 ho4' hb4 hK k5 o5 NB HNB
          have hx1m : (1 : Int) ≤ (m : Int) + 1 := by omega
          by_cases hc5 : c = 5
          · obtain rfl : m = 0 := by omega
            have hq0 : q = [] := List.eq_nil_of_length_eq_zero (unhide HQ)
            subst hc5
            subst hq0
            have HT0 := hide (txAt.nil W5 (some ⟨b, off + 4, none⟩) B)
            go_upto_region 11 with fail
            rw [← hW5]
            clear hW5 e3 f3
            have e0 : W5.cell? ⟨w1.heap.size, 0, none⟩ = some (.string ⟨#[]⟩) := d5.cell 0 _ rfl
            have e1 : W5.cell? ⟨w1.heap.size, 1, none⟩ = some (.bool true) := d5.cell 1 _ rfl
            have e2 : W5.cell? ⟨w1.heap.size, 2, none⟩ = some (.int .i64 a0) := d5.cell 2 _ rfl
            have e3 : W5.cell? ⟨w1.heap.size, 3, none⟩ = some (.slice ka K.length kc) := d5.cell 3 _ rfl
            have e4 : W5.cell? ⟨w1.heap.size, 4, none⟩ = some (.int .i64 a1) := d5.cell 4 _ rfl
            have e5 : W5.cell? ⟨w1.heap.size, 5, none⟩ = some (.int .i64 a2) := d5.cell 5 _ rfl
            have z0 : W5.cell? ⟨w.heap.size, 0, none⟩ = some (.string ⟨#[]⟩) := r5.cell 0 _ rfl
            have z1 : W5.cell? ⟨w.heap.size, 1, none⟩ = some (.bool false) := r5.cell 1 _ rfl
            have z2 : W5.cell? ⟨w.heap.size, 2, none⟩ = some (.int .i64 0) := r5.cell 2 _ rfl
            have z3 : W5.cell? ⟨w.heap.size, 3, none⟩ = some (.slice none 0 0) := r5.cell 3 _ rfl
            have z4 : W5.cell? ⟨w.heap.size, 4, none⟩ = some (.int .i64 0) := r5.cell 4 _ rfl
            have z5 : W5.cell? ⟨w.heap.size, 5, none⟩ = some (.int .i64 0) := r5.cell 5 _ rfl
            have zf := r5.froz
            have zd := d5.lt
            have ks : ∀ (W' : World) (j : Nat) (v : Value), Kept (fun k => k = w.heap.size) W' (W'.setCell ⟨w.heap.size, j, none⟩ v) := fun W' j v => Kept.set (S := fun k => k = w.heap.size) W' w.heap.size j v rfl
            have HKK := hide ((((((ks W5 0 (.string ⟨#[]⟩)).trans (ks _ 1 (.bool true))).trans (ks _ 2 (.int .i64 a0))).trans (ks _ 3 (.slice ka K.length kc))).trans (ks _ 4 (.int .i64 a1))).trans (ks _ 5 (.int .i64 a2)))
            have HR := hide ((((((r5.set 0 (.string ⟨#[]⟩)).set 1 (.bool true)).set 2 (.int .i64 a0)).set 3 (.slice ka K.length kc)).set 4 (.int .i64 a1)).set 5 (.int .i64 a2))
            have HB9 := hide (bw5.trans ((unhide HKK).below bw5.size (fun i hi => by omega)))
            have HTQ := hide ((unhide HT0).below ((unhide HKK).below (B := w.heap.size) bw5.size (fun i hi => by omega)) hB)
            have HOW := hide (InOwn.lower (B := w.heap.size + 1) (Gr.InOwn.kept (unhide HO5) (unhide HKK) (fun g hg e => by have := (Gr.InOwn.blk (unhide HO5) g hg).1; omega)) (by omega) : InOwn _ w.heap.size (.slice ka K.length kc) K)
            clear d5 r5 bw5 ks
            go_wp2_with fail
            (try simp only [Exit.inBlock, Exit.then])
            refine bodyPost_ret (results_deed3 Tryz.results54 _ _ w.heap.size _ _ _ _ _ _ rfl (unhide HR)) rfl ?_
            exact ⟨⟨true, a0, a1, a2, _, _, _, _, _, [], okb, rfl, unhide HTQ, by simp, by simp, by simp, (unhide HOKb), (fun h => ⟨K, rfl, unhide HOW, (unhide HOKt h).1, (unhide HOKt h).2⟩)⟩, unhide HB9⟩
          · have hc51 : ¬ c - 4 = 1 := by omega
            go_upto_region 11 with fail
            rw [← hW5]
            clear hW5 e3 f3
            have e0 : W5.cell? ⟨w1.heap.size, 0, none⟩ = some (.string ⟨#[]⟩) := d5.cell 0 _ rfl
            have e1 : W5.cell? ⟨w1.heap.size, 1, none⟩ = some (.bool true) := d5.cell 1 _ rfl
            have e2 : W5.cell? ⟨w1.heap.size, 2, none⟩ = some (.int .i64 a0) := d5.cell 2 _ rfl
            have e3 : W5.cell? ⟨w1.heap.size, 3, none⟩ = some (.slice ka K.length kc) := d5.cell 3 _ rfl
            have e4 : W5.cell? ⟨w1.heap.size, 4, none⟩ = some (.int .i64 a1) := d5.cell 4 _ rfl
            have e5 : W5.cell? ⟨w1.heap.size, 5, none⟩ = some (.int .i64 a2) := d5.cell 5 _ rfl
            have z0 : W5.cell? ⟨w.heap.size, 0, none⟩ = some (.string ⟨#[]⟩) := r5.cell 0 _ rfl
            have z1 : W5.cell? ⟨w.heap.size, 1, none⟩ = some (.bool false) := r5.cell 1 _ rfl
            have z2 : W5.cell? ⟨w.heap.size, 2, none⟩ = some (.int .i64 0) := r5.cell 2 _ rfl
            have z3 : W5.cell? ⟨w.heap.size, 3, none⟩ = some (.slice none 0 0) := r5.cell 3 _ rfl
            have z4 : W5.cell? ⟨w.heap.size, 4, none⟩ = some (.int .i64 0) := r5.cell 4 _ rfl
            have z5 : W5.cell? ⟨w.heap.size, 5, none⟩ = some (.int .i64 0) := r5.cell 5 _ rfl
            have zf := r5.froz
            have zd := d5.lt
            have ks : ∀ (W' : World) (j : Nat) (v : Value), Kept (fun k => k = w.heap.size) W' (W'.setCell ⟨w.heap.size, j, none⟩ v) := fun W' j v => Kept.set (S := fun k => k = w.heap.size) W' w.heap.size j v rfl
            have HKK := hide ((((((ks W5 0 (.string ⟨#[]⟩)).trans (ks _ 1 (.bool true))).trans (ks _ 2 (.int .i64 a0))).trans (ks _ 3 (.slice ka K.length kc))).trans (ks _ 4 (.int .i64 a1))).trans (ks _ 5 (.int .i64 a2)))
            have HR := hide ((((((r5.set 0 (.string ⟨#[]⟩)).set 1 (.bool true)).set 2 (.int .i64 a0)).set 3 (.slice ka K.length kc)).set 4 (.int .i64 a1)).set 5 (.int .i64 a2))
            have HB9 := hide (bw5.trans ((unhide HKK).below bw5.size (fun i hi => by omega)))
            have HTQ := hide ((unhide T65).below ((unhide HKK).below (B := w.heap.size) bw5.size (fun i hi => by omega)) hB)
            have HOW := hide (InOwn.lower (B := w.heap.size + 1) (Gr.InOwn.kept (unhide HO5) (unhide HKK) (fun g hg e => by have := (Gr.InOwn.blk (unhide HO5) g hg).1; omega)) (by omega) : InOwn _ w.heap.size (.slice ka K.length kc) K)
            clear d5 r5 bw5 ks
            go_wp2_with fail
            (try simp only [Exit.inBlock, Exit.then])
            refine bodyPost_ret (results_deed3 Tryz.results54 _ _ w.heap.size _ _ _ _ _ _ rfl (unhide HR)) rfl ?_
            exact ⟨⟨true, a0, a1, a2, ka, K.length, kc, some ⟨b, off + 4 + 1, none⟩, c - 4 - 1, q, okb, by rw [unhide HQ]; rfl, unhide HTQ, by rw [unhide HQ]; omega, by rw [unhide HQ]; omega, (unhide HQS), (unhide HOKb), (fun h => ⟨K, rfl, unhide HOW, (unhide HOKt h).1, (unhide HOKt h).2⟩)⟩, unhide HB9⟩

end Sc
end Go.Proofs.YtjhnippfepbjmaaGreatDoor

/-
  The contract of impl.deedIn.
-/
namespace Go.Proofs.YtjhnippfepbjmaaGreatDoor
namespace Sc
open Go.RowKit
open Gr (own_below own_lower InOwn InAt Blk Kept below_new DeedI deedOk dsize DeAt)

/-- What stands ahead of a deed's text. -/
def DiRel (w : World) (B : Nat) (L : List ByteArray) (p5 p6 : Value) (wx : World) : Prop :=
  ∃ (a : Option Addr) (c : Nat) (q : List ByteArray) (cu : Bool) (s o pp : Int) (ka : Option Addr) (kn kc : Nat) (ok : Bool),
    p5 = .slice a q.length c ∧ p6 = .bool ok ∧ q.length ≤ 8 ∧ q.length ≤ c ∧ (∀ y ∈ q, y.size ≤ 400) ∧ txAt wx a B q ∧
    Blk wx w.heap.size #[.string ⟨#[]⟩, .bool false, .int .i64 0, .slice none 0 0, .int .i64 0, .int .i64 0] 46 ∧
    Blk wx (w.heap.size + 1) #[.string ⟨#[]⟩, .bool cu, .int .i64 s, .slice ka kn kc, .int .i64 o, .int .i64 pp] 46 ∧ Below w.heap.size w wx ∧
    (ok = false → deedM L = none) ∧ (ok = true → ∃ K, kn = K.length ∧ InOwn wx (w.heap.size + 1 + 1) (.slice ka kn kc) K ∧ K.length ≤ 1000 ∧ deedM L = deedOf cu s o pp K q)

set_option maxRecDepth 100000 in
set_option maxHeartbeats 8000000 in
theorem implDeedIn (x : ByteArray) (r : List ByteArray) (b off c B T : Nat) (hL : r.length ≤ 7) (hc : r.length + 1 ≤ c) (hsz : ∀ y ∈ x :: r, 0 < y.size ∧ y.size ≤ 400) (w : World) (hB : B ≤ w.heap.size) (h : txAt w (some ⟨b, off, none⟩) B (x :: r)) (hT : T ≤ w.heap.size) (ht : Tb T w) :
    Calls Tryz.prog 42 #[.slice (some ⟨b, off, none⟩) (r.length + 1) c] w fun e w' => DdPost w.heap.size w' e (deedM (x :: r)) ∧ Below w.heap.size w w' := by
  obtain ⟨V, hV⟩ : ∃ W, W = (w.alloc (Obj.cells #[.string ⟨#[]⟩, .bool false, .int .i64 0, .slice none 0 0, .int .i64 0, .int .i64 0] 46)).alloc (Obj.cells #[.string ⟨#[]⟩, .bool false, .int .i64 0, .slice none 0 0, .int .i64 0, .int .i64 0] 46) := ⟨_, rfl⟩
  have bV : Below w.heap.size w V := by rw [hV]; exact (below_new _ _).alloc (by simp) _
  have r0 : Blk V w.heap.size #[.string ⟨#[]⟩, .bool false, .int .i64 0, .slice none 0 0, .int .i64 0, .int .i64 0] 46 := by rw [hV]; exact Blk.new0.alloc
  have d0 : Blk V (w.heap.size + 1) #[.string ⟨#[]⟩, .bool false, .int .i64 0, .slice none 0 0, .int .i64 0, .int .i64 0] 46 := by rw [hV]; exact Blk.new1
  have hz := d0.lt
  obtain ⟨b', off', eb, hbB, cx⟩ := h 0 (by simp)
  simp only [Option.some.injEq, Addr.mk.injEq, and_true] at eb
  obtain ⟨rfl, rfl⟩ := eb
  simp only [List.getElem_cons_zero, Nat.add_zero] at cx
  have hbw : b < w.heap.size := by omega
  have PW : Hid (isPow x = true → Calls Tryz.prog 54 #[.slice (some ⟨b, off, none⟩) (r.length + 1) c] V fun e w' => PwPost B V w' e (x :: r) ∧ Below V.heap.size V w') := fun hP => implPower x r hP b off c B T hL hc hsz V (Nat.le_trans hB bV.size) (h.below bV hB) (Nat.le_trans hT bV.size) (ht.below bV hT)
  have HTB := hide ht
  have HT0 := hide (h.below bV hB)
  have HSZ := hide (fun y hy => (hsz y hy).2)
  obtain ⟨tp, htp⟩ : ∃ t, t = (x.toList == [112, 111, 119, 101, 114]) := ⟨_, rfl⟩
  have HPW : Hid (isPow x = tp) := htp.symm
  have hq : (x.toList == [112, 111, 119, 101, 114]) = tp := htp.symm
  obtain ⟨n, hn⟩ : ∃ n, n = r.length := ⟨_, rfl⟩
  have HN := hide hn
  rw [← hn] at hL hc PW ⊢
  clear h hsz ht htp hn
  go_enter Tryz.func42, Tryz.ntmps42
  go_upto_if 14 with fail
  rw [← hV]
  clear hV cx
  go_cut [5, 6] (fun p5 p6 wx => Hid (DiRel w B (x :: r) p5 p6 wx))
  case first =>
    cases tp with
    | false =>
      go_wp2_with fail
      go_meet
      case rel =>
        exact ⟨_, c, x :: r, false, 0, 0, 0, none, 0, 0, true, by rw [List.length_cons, ← unhide HN], rfl, by rw [List.length_cons, ← unhide HN]; omega, by rw [List.length_cons, ← unhide HN]; exact hc, unhide HSZ, unhide HT0, r0, d0, bV, (fun h => by cases h), (fun _ => ⟨[], rfl, in_nil _ _, by simp, deed_plain (unhide HPW)⟩)⟩
    | true =>
      have PW1 := hide (unhide PW (unhide HPW))
      clear PW
      go_wp2_with fail
      refine (unhide PW1).mono ?_
      rintro e w1 ⟨⟨cu, s, o, p, ka, kn, kc, al, cl, q, ok, rfl, ht1, hq8, hqc, hqs, hf, htr⟩, hb1⟩
      have d1 := d0.below hb1
      have r1 := r0.below hb1
      have b1 := bV.trans (hb1.mono bV.size)
      have e0 : w1.cell? ⟨w.heap.size + 1, 0, none⟩ = some (.string ⟨#[]⟩) := d1.cell 0 _ rfl
      have e1 : w1.cell? ⟨w.heap.size + 1, 1, none⟩ = some (.bool false) := d1.cell 1 _ rfl
      have e2 : w1.cell? ⟨w.heap.size + 1, 2, none⟩ = some (.int .i64 0) := d1.cell 2 _ rfl
      have e3 : w1.cell? ⟨w.heap.size + 1, 3, none⟩ = some (.slice none 0 0) := d1.cell 3 _ rfl
      have e4 : w1.cell? ⟨w.heap.size + 1, 4, none⟩ = some (.int .i64 0) := d1.cell 4 _ rfl
      have e5 : w1.cell? ⟨w.heap.size + 1, 5, none⟩ = some (.int .i64 0) := d1.cell 5 _ rfl
      have ef := d1.froz
      have ks : ∀ (W' : World) (j : Nat) (v : Value), Kept (fun k => k = w.heap.size + 1) W' (W'.setCell ⟨w.heap.size + 1, j, none⟩ v) := fun W' j v => Kept.set (S := fun k => k = w.heap.size + 1) W' (w.heap.size + 1) j v rfl
      have kk := ((((((ks w1 0 (.string ⟨#[]⟩)).trans (ks _ 1 (.bool cu))).trans (ks _ 2 (.int .i64 s))).trans (ks _ 3 (.slice ka kn kc))).trans (ks _ 4 (.int .i64 o))).trans (ks _ 5 (.int .i64 p)))
      have HD := hide ((((((d1.set 0 (.string ⟨#[]⟩)).set 1 (.bool cu)).set 2 (.int .i64 s)).set 3 (.slice ka kn kc)).set 4 (.int .i64 o)).set 5 (.int .i64 p))
      have HR := hide (r1.kept kk (by omega))
      have HBB := hide (b1.trans (kk.below b1.size (fun i hi => by omega)))
      have HT1 := hide (ht1.below (kk.below (B := w.heap.size) b1.size (fun i hi => by omega)) hB)
      have HF := hide hf
      have HTR : Hid (ok = true → ∃ K, kn = K.length ∧ InOwn (((((((w1.setCell ⟨w.heap.size + 1, 0, none⟩ (.string ⟨#[]⟩)).setCell ⟨w.heap.size + 1, 1, none⟩ (.bool cu)).setCell ⟨w.heap.size + 1, 2, none⟩ (.int .i64 s)).setCell ⟨w.heap.size + 1, 3, none⟩ (.slice ka kn kc)).setCell ⟨w.heap.size + 1, 4, none⟩ (.int .i64 o)).setCell ⟨w.heap.size + 1, 5, none⟩ (.int .i64 p))) (w.heap.size + 1 + 1) (.slice ka kn kc) K ∧ K.length ≤ 1000 ∧ deedM (x :: r) = deedOf cu s o p K q) := fun h => by
        obtain ⟨K, k1, k2, k3, k4⟩ := htr h
        exact ⟨K, k1, InOwn.lower (B := V.heap.size) (k2.kept kk (fun g hg e => by have := (k2.blk g hg).1; omega)) (by omega), k3, k4⟩
      have HQ8 := hide (And.intro hq8 (And.intro hqc hqs))
      clear d1 r1 b1 kk ks ht1 hf htr hb1 r0 d0 bV hq8 hqc hqs
      go_wp2_with fail
      go_meet
      case rel => exact ⟨al, cl, q, cu, s, o, p, ka, kn, kc, ok, rfl, rfl, (unhide HQ8).1, (unhide HQ8).2.1, (unhide HQ8).2.2, unhide HT1, unhide HR, unhide HD, unhide HBB, unhide HF, unhide HTR⟩
  case rest =>
    obtain ⟨a, c', q, cu, s, o, pp, ka, kn, kc, ok, rfl, rfl, hq8, hqc, hqs, hTq, hR, hD, hb, hF, hTr⟩ := unhide hcut
    have AS := hide (implCmdText a c' B T q hq8 hqc hqs wc (Nat.le_trans hB hb.size) hTq (Nat.le_trans hT hb.size) ((unhide HTB).below hb hT))
    have HTS : Hid (∀ T, textM q = some T → T.size ≤ 10000) := fun T h => text_size h
    have HN0 : Hid (ok = false ∨ textM q = none → deedM (x :: r) = none) := fun h => by
      cases ok with
      | false => exact hF rfl
      | true =>
        obtain ⟨K, _, _, _, e⟩ := hTr rfl
        rw [e]
        exact deedOf_none (h.resolve_left (by simp))
    have HN1 : Hid (ok = true → ∃ K, kn = K.length ∧ InOwn wc (w.heap.size + 1 + 1) (.slice ka kn kc) K ∧ K.length ≤ 1000 ∧ ∀ T, textM q = some T → deedM (x :: r) = if deedOk ⟨T, cu, s, o, pp⟩ K = true then some (⟨T, cu, s, o, pp⟩, K) else none) := fun h => by
      obtain ⟨K, k1, k2, k3, e⟩ := hTr h
      exact ⟨K, k1, k2, k3, fun T hT => by rw [e]; exact deedOf_some hT⟩
    clear hcut HT0 PW r0 d0 bV hTq hF hTr hq8 hqc hqs HPW
    generalize textM q = ot at AS HTS HN0 HN1
    go_wp2_with fail
    refine (unhide AS).mono ?_
    rintro e w1 ⟨he, hb1⟩
    unfold TextPost at he
    subst he
    have hz1 := hD.lt
    have d1 := hD.below hb1
    have r1 := hR.below hb1
    have b1 := hb.trans (hb1.mono hb.size)
    have e0 : w1.cell? ⟨w.heap.size + 1, 0, none⟩ = some (.string ⟨#[]⟩) := d1.cell 0 _ rfl
    have ef := d1.froz 0
    obtain ⟨T', hTe⟩ : ∃ T, T = ot.getD ⟨#[]⟩ := ⟨_, rfl⟩
    rw [← hTe]
    have HTe := hide hTe
    clear hTe
    obtain ⟨W2, hW2⟩ : ∃ W, W = w1.setCell ⟨w.heap.size + 1, 0, none⟩ (.string T') := ⟨_, rfl⟩
    have k2 : Kept (fun k => k = w.heap.size + 1) w1 W2 := by rw [hW2]; exact Kept.set (S := fun k => k = w.heap.size + 1) _ _ _ _ rfl
    have d2 : Blk W2 (w.heap.size + 1) #[.string T', .bool cu, .int .i64 s, .slice ka kn kc, .int .i64 o, .int .i64 pp] 46 := by rw [hW2]; exact d1.set 0 _
    have r2 := r1.kept k2 (by omega)
    have b2 := b1.trans (k2.below b1.size (fun i hi => by omega))
    have HN2 : Hid (ok = true → ∃ K, kn = K.length ∧ InOwn W2 (w.heap.size + 1 + 1) (.slice ka kn kc) K ∧ K.length ≤ 1000 ∧ ∀ T, ot = some T → deedM (x :: r) = if deedOk ⟨T, cu, s, o, pp⟩ K = true then some (⟨T, cu, s, o, pp⟩, K) else none) := fun h => by
      obtain ⟨K, k1, k2', k3, e⟩ := unhide HN1 h
      have k4 := k2'.below hb1
      exact ⟨K, k1, k4.kept k2 (fun g hg e => by have := (k4.blk g hg).1; omega), k3, e⟩
    clear hD hR hb hb1 d1 r1 b1 k2 AS HN1
    go_upto_region 6 with fail
    rw [← hW2]
    clear hW2 e0 ef
    have hne : w.heap.size + 1 ≠ w.heap.size := by omega
    have hne1 : ¬ w.heap.size + 1 = w.heap.size := hne
    have hne2 : ¬ w.heap.size = w.heap.size + 1 := by omega
    have k0 : W2.cell? ⟨w.heap.size + 1, 0, none⟩ = some (.string T') := d2.cell 0 _ rfl
    have k1 : W2.cell? ⟨w.heap.size + 1, 1, none⟩ = some (.bool cu) := d2.cell 1 _ rfl
    have k2 : W2.cell? ⟨w.heap.size + 1, 2, none⟩ = some (.int .i64 s) := d2.cell 2 _ rfl
    have k3 : W2.cell? ⟨w.heap.size + 1, 3, none⟩ = some (.slice ka kn kc) := d2.cell 3 _ rfl
    have k4 : W2.cell? ⟨w.heap.size + 1, 4, none⟩ = some (.int .i64 o) := d2.cell 4 _ rfl
    have k5 : W2.cell? ⟨w.heap.size + 1, 5, none⟩ = some (.int .i64 pp) := d2.cell 5 _ rfl
    have z0 : W2.cell? ⟨w.heap.size, 0, none⟩ = some (.string ⟨#[]⟩) := r2.cell 0 _ rfl
    have z1 : W2.cell? ⟨w.heap.size, 1, none⟩ = some (.bool false) := r2.cell 1 _ rfl
    have z2 : W2.cell? ⟨w.heap.size, 2, none⟩ = some (.int .i64 0) := r2.cell 2 _ rfl
    have z3 : W2.cell? ⟨w.heap.size, 3, none⟩ = some (.slice none 0 0) := r2.cell 3 _ rfl
    have z4 : W2.cell? ⟨w.heap.size, 4, none⟩ = some (.int .i64 0) := r2.cell 4 _ rfl
    have z5 : W2.cell? ⟨w.heap.size, 5, none⟩ = some (.int .i64 0) := r2.cell 5 _ rfl
    have zf := r2.froz
    have zk := d2.lt
    have zr := r2.lt
    have HR2 := hide r2
    have HD2 := hide d2
    have ks : ∀ (W' : World) (j : Nat) (v : Value), Kept (fun k => k = w.heap.size) W' (W'.setCell ⟨w.heap.size, j, none⟩ v) := fun W' j v => Kept.set (S := fun k => k = w.heap.size) W' w.heap.size j v rfl
    have HKS := hide (fun W => (((((ks W 0 (.string T')).trans (ks _ 1 (.bool cu))).trans (ks _ 2 (.int .i64 s))).trans (ks _ 3 (.slice ka kn kc))).trans (ks _ 4 (.int .i64 o))).trans (ks _ 5 (.int .i64 pp)))
    have HBS := hide (fun (W : World) (hR : Blk W w.heap.size #[.string ⟨#[]⟩, .bool false, .int .i64 0, .slice none 0 0, .int .i64 0, .int .i64 0] 46) => (((((hR.set 0 (.string T')).set 1 (.bool cu)).set 2 (.int .i64 s)).set 3 (.slice ka kn kc)).set 4 (.int .i64 o)).set 5 (.int .i64 pp))
    have HBL := hide (fun (W : World) (hb : Below w.heap.size w W) => hb.trans ((unhide HKS W).below hb.size (fun i hi => by omega)))
    clear ks
    have hcs : (ok = false ∨ ot = none) ∨ (ok = true ∧ ∃ T, ot = some T) := by
      cases ok with
      | false => exact .inl (.inl rfl)
      | true =>
        cases ot with
        | none => exact .inl (.inr rfl)
        | some T => exact .inr ⟨rfl, T, rfl⟩
    rcases hcs with hno | ⟨hok, T1, hot⟩
    · have HDN := hide (unhide HN0 hno)
      have HE1 := hide (unhide HBS W2 r2)
      have HE2 := hide (unhide HBL W2 b2)
      have hgd : (ok && ot.isSome) = false := by
        rcases hno with h | h
        · rw [h]; rfl
        · rw [h]; simp
      clear r2 d2 b2 HTe HN0 HN2 HTS HKS HBS HBL hno
      cases ok with
      | false =>
        go_region
        all_goals
          go_wp2_with fail
          (try simp only [Exit.inBlock, Exit.then])
          refine bodyPost_ret (results_deed2 Tryz.results42 _ _ w.heap.size _ _ _ _ _ _ rfl (unhide HE1).drew) rfl ?_
          exact ⟨dd_none ⟨T', cu, s, o, pp⟩ (unhide HDN), (unhide HE2).drew⟩
      | true =>
        have hos : ot.isSome = false := by simpa using hgd
        rw [hos]
        go_region
        all_goals
          go_wp2_with fail
          (try simp only [Exit.inBlock, Exit.then])
          refine bodyPost_ret (results_deed2 Tryz.results42 _ _ w.heap.size _ _ _ _ _ _ rfl (unhide HE1).drew) rfl ?_
          exact ⟨dd_none ⟨T', cu, s, o, pp⟩ (unhide HDN), (unhide HE2).drew⟩
    · subst hok
      subst hot
      have hT0 : T' = T1 := unhide HTe
      subst hT0
      have hTs := unhide HTS T' rfl
      obtain ⟨K, hkn, o2, hK, hDe⟩ := unhide HN2 rfl
      subst hkn
      have OK := hide (fun W (hb : Below W2.heap.size W2 W) => Gr.implDeed_gen W2.heap.size (.agg #[.string T', .bool cu, .int .i64 s, .slice ka K.length kc, .int .i64 o, .int .i64 pp]) ⟨T', cu, s, o, pp⟩ K (by unfold dsize; simp only; omega) W hb.size (DeAt.below (C := W2.heap.size) ⟨ka, kc, rfl, o2.at, by simp only; omega, by omega⟩ hb (Nat.le_refl _)))
      have HDN := hide (hDe T' rfl)
      generalize deedOk ⟨T', cu, s, o, pp⟩ K = okd at OK HDN
      have HE := hide (fun W (hb : Below W2.heap.size W2 W) => And.intro (unhide HBS W (r2.below hb)) (And.intro (unhide HBL W (b2.trans (hb.mono b2.size))) (InOwn.lower (C := w.heap.size) (B := w.heap.size + 1 + 1) ((o2.below hb).kept (unhide HKS W) (fun g hg e => by have := ((o2.below hb).blk g hg).1; omega)) (by omega))))
      clear HTe HN0 HN2 HTS HKS HBS HBL r2 d2 o2 b2 hTs hDe
      go_region_held3 (fun u => u.cell? ⟨w.heap.size + 1, 0, none⟩ = some (.string T') ∧ u.cell? ⟨w.heap.size + 1, 1, none⟩ = some (.bool cu) ∧ u.cell? ⟨w.heap.size + 1, 2, none⟩ = some (.int .i64 s) ∧ u.cell? ⟨w.heap.size + 1, 3, none⟩ = some (.slice ka K.length kc) ∧ u.cell? ⟨w.heap.size + 1, 4, none⟩ = some (.int .i64 o) ∧ u.cell? ⟨w.heap.size + 1, 5, none⟩ = some (.int .i64 pp))
        (first | go_keep | with_reducible exact ⟨j0, j1, j2, j3, j4, j5⟩ | with_reducible exact ⟨i0, i1, i2, i3, i4, i5⟩)
        (first | (go_at_call 56; refine (unhide OK _ (Below.refl _ _).drew).mono ?_; rintro e w7 ⟨rfl, hb7⟩; have m7 := (unhide HR2).drew.below hb7; have q0 := m7.cell 0 _ rfl; have q1 := m7.cell 1 _ rfl; have q2 := m7.cell 2 _ rfl; have q3 := m7.cell 3 _ rfl; have q4 := m7.cell 4 _ rfl; have q5 := m7.cell 5 _ rfl; have f0 := m7.froz 0; have f1 := m7.froz 1; have f2 := m7.froz 2; have f3 := m7.froz 3; have f4 := m7.froz 4; have f5 := m7.froz 5; have j0 := (hb7.cell (p := ⟨w.heap.size + 1, 0, none⟩) zk).trans k0; have j1 := (hb7.cell (p := ⟨w.heap.size + 1, 1, none⟩) zk).trans k1; have j2 := (hb7.cell (p := ⟨w.heap.size + 1, 2, none⟩) zk).trans k2; have j3 := (hb7.cell (p := ⟨w.heap.size + 1, 3, none⟩) zk).trans k3; have j4 := (hb7.cell (p := ⟨w.heap.size + 1, 4, none⟩) zk).trans k4; have j5 := (hb7.cell (p := ⟨w.heap.size + 1, 5, none⟩) zk).trans k5; have x8 := (((((((unhide HD2).drew.below hb7).set_other hne 0 (.string T')).set_other hne 1 (.bool cu)).set_other hne 2 (.int .i64 s)).set_other hne 3 (.slice ka K.length kc)).set_other hne 4 (.int .i64 o)).set_other hne 5 (.int .i64 pp); have i0 := x8.cell 0 _ rfl; have i1 := x8.cell 1 _ rfl; have i2 := x8.cell 2 _ rfl; have i3 := x8.cell 3 _ rfl; have i4 := x8.cell 4 _ rfl; have i5 := x8.cell 5 _ rfl))
      have hE := unhide HE w7 ((Below.refl _ _).drew.trans hb7)
      clear m7 x8 q0 q1 q2 q3 q4 q5 f0 f1 f2 f3 f4 f5 i0 i1 i2 i3 i4 i5 j0 j1 j2 j3 j4 j5 k0 k1 k2 k3 k4 k5 z0 z1 z2 z3 z4 z5 zf
      go_wp2_with fail
      (try simp only [Exit.inBlock, Exit.then])
      refine bodyPost_ret (results_deed2 Tryz.results42 _ _ w.heap.size _ _ _ _ _ _ rfl hE.1) rfl ?_
      refine ⟨?_, hE.2.1⟩
      have eD := unhide HDN
      cases okd with
      | false => exact dd_none ⟨T', cu, s, o, pp⟩ (by rw [eD]; rfl)
      | true =>
        rw [if_pos rfl] at eD
        refine ⟨⟨T', cu, s, o, pp⟩, ka, K.length, kc, by rw [eD]; rfl, fun y hy => ?_⟩
        rw [eD] at hy
        cases hy
        exact ⟨rfl, rfl, hE.2.2⟩

end Sc
end Go.Proofs.YtjhnippfepbjmaaGreatDoor
