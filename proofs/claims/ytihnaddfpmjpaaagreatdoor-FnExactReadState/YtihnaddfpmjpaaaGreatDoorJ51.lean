/-
 CyE, CyR1.
-/
import Derived.Test.YtihnaddfpmjpaaaGreatDoorProg
import Derived.WalkKit
import Derived.LaidEql
import Derived.RowKitTokens
import Derived.Test.YtihnaddfpmjpaaaGreatDoorJ50
import Derived.Test.YtihnaddfpmjpaaaGreatDoorJ48
import Derived.Test.YtihnaddfpmjpaaaGreatDoorJ17
import Derived.Deep.RegionHeld3
import Derived.BigQuiet
import Derived.Laws.EntriesVeiled
import Derived.Deep.DeepCutAuto
import Derived.Deep.CutBlock
namespace Go.Proofs.YtihnaddfpmjpaaaGreatDoor
namespace Cy
open Go.RowKit Go.Extern.Stop Go.Stop Go.Extern
theorem isTypeOf (v : Value) (w : World) : (Extern.ReflectliteType.typeOf #[.iface 250 v]).run Tryz.prog w = .ok (.iface 175 (.agg #[.pointer (some ⟨5, 250, none⟩)])) w := by kernel_rfl
theorem isComparable (w : World) : ((Extern.ReflectliteType.method fun t => do Extern.Rtype.noPackHeld "Comparable" t; pure (.bool (← typeInfo t).comparable)) #[.agg #[.pointer (some ⟨5, 250, none⟩)]]).run Tryz.prog w = .ok (.bool true) w := by kernel_rfl
theorem isMethodComparable (v : Value) (w : World) : (Go.method 383 175 v "Comparable").run Tryz.prog w = .ok (221, v) w := by kernel_rfl
theorem isComp : (Tryz.prog.info? 250).map (·.comparable) = some true := by kernel_rfl
theorem isSize : (Tryz.prog.info? 272).map (·.size) = some 1 := by kernel_rfl
theorem is_same (a : Addr) (w : World) :
    Calls Tryz.prog 94 #[.iface 250 (.pointer (some a)), .iface 250 (.pointer (some a))] w fun e w' => e = .returned (.bool true) ∧ w' = w := by
  -- BARE (functions that the translation names without a body)
  obtain ⟨i, hi, hcmp⟩ := Option.map_eq_some_iff.1 isComp
  obtain ⟨j, hj, hjs⟩ := Option.map_eq_some_iff.1 isSize
  have h8 := @run_callFunc_extern Tryz.prog 114 _ Extern.ReflectliteType.typeOf Tryz.func114 (by kernel_rfl) (by kernel_rfl) (by kernel_rfl) (by kernel_rfl)
  have h32 : ∀ w : World, (callFunc 221 #[.agg #[.pointer (some ⟨5, 250, none⟩)]]).run Tryz.prog w = .ok (.value (.bool true)) w := fun w => by
    rw [@run_callFunc_extern Tryz.prog 221 _ (Extern.ReflectliteType.method fun t => do Extern.Rtype.noPackHeld "Comparable" t; pure (.bool (← typeInfo t).comparable)) Tryz.func221 (by kernel_rfl) (by kernel_rfl) (by kernel_rfl) (by kernel_rfl), isComparable]
    rfl
  have tT := isTypeOf
  have mR := isMethodComparable
  have heq := run_eql_iface_ptr_same (P := Tryz.prog) w a Tryz.underlying120 Tryz.underlying250 hi hcmp hj
  go_enter Tryz.func94, Tryz.ntmps94
  go_wp2
  refine wp_loop_rounds 1 ?_
  rw [rounds_succ]
  go_wp2
  go_ret
  exact ⟨rfl, rfl⟩
theorem is_nil (b : Addr) (w : World) :
    Calls Tryz.prog 94 #[.nilIface, .iface 250 (.pointer (some b))] w fun e w' => e = .returned (.bool false) ∧ w' = w := by
  have hn := run_eql_iface_nil_left (P := Tryz.prog) w 250 (.pointer (some b)) Tryz.underlying120
  go_enter Tryz.func94, Tryz.ntmps94
  go_wp2
  go_ret
  exact ⟨rfl, rfl⟩
end Cy
end Go.Proofs.YtihnaddfpmjpaaaGreatDoor
namespace Go.Proofs.YtihnaddfpmjpaaaGreatDoor
namespace Cy
open Go.RowKit
open Gr (Blk Kept)
theorem results_cpp {fn : Func} {p a b : Tmp} (h : fn.results = #[.cell p 55, .tmp a, .tmp b]) (tmps : Array Value) (w : World) (g : Nat) (x0 x1 : Value) (hp : tmps.getD p undef = .pointer (some ⟨g, 0, none⟩)) (hg : Blk w g #[x0, x1] 55) :
    (results fn tmps).run Tryz.prog w = .ok (.tuple #[.agg #[x0, x1], tmps.getD a undef, tmps.getD b undef]) w := by
  have c0 := hg.cell 0 x0 rfl
  have c1 := hg.cell 1 x1 rfl
  have hp' : tmps[p]?.getD undef = .pointer (some ⟨g, 0, none⟩) := by simpa using hp
  simp [results, h, hp', go_sem, c0, c1]
theorem results_cp {fn : Func} {p a : Tmp} (h : fn.results = #[.cell p 55, .tmp a]) (tmps : Array Value) (w : World) (g : Nat) (x0 x1 : Value) (hp : tmps.getD p undef = .pointer (some ⟨g, 0, none⟩)) (hg : Blk w g #[x0, x1] 55) :
    (results fn tmps).run Tryz.prog w = .ok (.tuple #[.agg #[x0, x1], tmps.getD a undef]) w := by
  have c0 := hg.cell 0 x0 rfl
  have c1 := hg.cell 1 x1 rfl
  have hp' : tmps[p]?.getD undef = .pointer (some ⟨g, 0, none⟩) := by simpa using hp
  simp [results, h, hp', go_sem, c0, c1]
def pairOut : Option ((ByteArray × ByteArray) × Nat) → Value
  | none => .tuple #[.agg #[.string ⟨#[]⟩, .string ⟨#[]⟩], .int .i64 0, .bool false]
  | some q => .tuple #[.agg #[.string q.1.1, .string q.1.2], .int .i64 (q.2 : Int), .bool true]
theorem Kept.wide2 {S : Nat → Prop} {w W W' : World} (h : Kept S w W) (k : Kept (fun i => i = w.heap.size) W W') : Kept S w W' :=
  ⟨k.1.trans h.1, k.2.1.trans h.2.1, k.2.2.1.trans h.2.2.1, Nat.le_trans h.2.2.2.1 k.2.2.2.1, fun i hi hS => by
    rw [k.2.2.2.2 i (Nat.lt_of_lt_of_le hi h.2.2.2.1) (by omega), h.2.2.2.2 i hi hS]⟩
theorem two_set {w : World} {g : Nat} {C0 C1 x y : Value} {t : TypeId} (h : Blk w g #[C0, C1] t) : Blk ((w.setCell ⟨g, 0, none⟩ x).setCell ⟨g, 1, none⟩ y) g #[x, y] t := (h.set 0 x).set 1 y
theorem below_two {w w2 : World} {g : Nat} {x y : Value} (h : Below w.heap.size w w2) (hg : w.heap.size ≤ g) : Below w.heap.size w ((w2.setCell ⟨g, 0, none⟩ x).setCell ⟨g, 1, none⟩ y) :=
  (h.setCell (p := ⟨g, 0, none⟩) hg _).setCell (p := ⟨g, 1, none⟩) hg _
theorem far_two {w : World} {g b : Nat} (o : Nat) (h : b < g) (x y : Value) : ((w.setCell ⟨g, 0, none⟩ x).setCell ⟨g, 1, none⟩ y).cell? ⟨b, o, none⟩ = w.cell? ⟨b, o, none⟩ :=
  (((Below.refl (b + 1) w).setCell (p := ⟨g, 0, none⟩) (Nat.succ_le_of_lt h) x).setCell (p := ⟨g, 1, none⟩) (Nat.succ_le_of_lt h) y).cell (p := ⟨b, o, none⟩) (by simp)
set_option maxRecDepth 100000 in
set_option maxHeartbeats 4000000 in
theorem readPair_any (s : ByteArray) (a : Nat) (hs : s.size ≤ 1048576) (w : World) :
    Calls Tryz.prog 95 #[.string s, .int .i64 (a : Int)] w fun e w' => e = .returned (pairOut (rdP s a)) ∧ Below w.heap.size w w' := by
  have R1 := hide (fun w => implRS_any s (a : Int) (by omega) w)
  rw [rsOut_is] at R1
  have hP : rdP s a = match rdSh s a with | none => none | some x => match rdSh s x.2 with | none => none | some y => some ((x.1, y.1), y.2) := rfl
  obtain ⟨V1, hV1⟩ : ∃ W, W = w.alloc (Obj.cells #[.string ⟨#[]⟩, .string ⟨#[]⟩] 55) := ⟨_, rfl⟩
  have b1 : Below w.heap.size w V1 := by rw [hV1]; exact Gr.below_new _ _
  have x1 : Blk V1 w.heap.size #[.string ⟨#[]⟩, .string ⟨#[]⟩] 55 := by rw [hV1]; exact Gr.Blk.new0
  cases h1 : rdSh s a with
  | none =>
    rw [h1] at R1 hP
    simp only at R1 hP
    rw [hP]
    unfold pairOut
    clear hP h1
    go_enter Tryz.func95, Tryz.ntmps95
    go_wp2_with fail
    rw [← hV1]
    clear hV1
    refine (unhide R1 V1).mono ?_
    rintro e w2 ⟨rfl, hb2⟩
    have x2 := x1.below hb2
    have b2 := b1.trans (hb2.mono b1.size)
    clear x1 b1 hb2 R1
    have q0 := x2.cell 0 _ rfl
    have q1 := x2.cell 1 _ rfl
    have f0 := x2.froz 0
    have f1 := x2.froz 1
    have HX := hide (two_set (x := .string ⟨#[]⟩) (y := .string ⟨#[]⟩) x2)
    have HB := hide (below_two (x := .string ⟨#[]⟩) (y := .string ⟨#[]⟩) b2 (Nat.le_refl _))
    clear x2 b2
    go_wp2_with fail
    (try simp only [Exit.inBlock, Exit.then])
    refine bodyPost_ret (results_cpp Tryz.results95 _ _ w.heap.size _ _ rfl (unhide HX)) rfl ?_
    exact ⟨rfl, unhide HB⟩
  | some x =>
    obtain ⟨xb, xe⟩ := x
    have R2 := hide (fun w => implRS_any s (xe : Int) (by omega) w)
    rw [rsOut_is] at R2
    rw [h1] at R1 hP
    simp only at R1 hP
    cases h2 : rdSh s xe with
    | none =>
      rw [h2] at R2 hP
      simp only at R2 hP
      rw [hP]
      unfold pairOut
      clear hP h1 h2
      go_enter Tryz.func95, Tryz.ntmps95
      go_wp2_with fail
      rw [← hV1]
      clear hV1
      refine (unhide R1 V1).mono ?_
      rintro e w2 ⟨rfl, hb2⟩
      have x2 := x1.below hb2
      have b2 := b1.trans (hb2.mono b1.size)
      clear x1 b1 hb2 R1
      go_wp2_with fail
      refine (unhide R2 w2).mono ?_
      rintro e w3 ⟨rfl, hb3⟩
      have x3 := x2.below hb3
      have b3 := b2.trans (hb3.mono b2.size)
      clear x2 b2 hb3 R2
      have q0 := x3.cell 0 _ rfl
      have q1 := x3.cell 1 _ rfl
      have f0 := x3.froz 0
      have f1 := x3.froz 1
      have HX := hide (two_set (x := .string ⟨#[]⟩) (y := .string ⟨#[]⟩) x3)
      have HB := hide (below_two (x := .string ⟨#[]⟩) (y := .string ⟨#[]⟩) b3 (Nat.le_refl _))
      clear x3 b3
      go_wp2_with fail
      (try simp only [Exit.inBlock, Exit.then])
      refine bodyPost_ret (results_cpp Tryz.results95 _ _ w.heap.size _ _ rfl (unhide HX)) rfl ?_
      exact ⟨rfl, unhide HB⟩
    | some y =>
      obtain ⟨yb, ye⟩ := y
      rw [h2] at R2 hP
      simp only at R2 hP
      rw [hP]
      unfold pairOut
      clear hP h1 h2
      go_enter Tryz.func95, Tryz.ntmps95
      go_wp2_with fail
      rw [← hV1]
      clear hV1
      refine (unhide R1 V1).mono ?_
      rintro e w2 ⟨rfl, hb2⟩
      have x2 := x1.below hb2
      have b2 := b1.trans (hb2.mono b1.size)
      clear x1 b1 hb2 R1
      go_wp2_with fail
      refine (unhide R2 w2).mono ?_
      rintro e w3 ⟨rfl, hb3⟩
      have x3 := x2.below hb3
      have b3 := b2.trans (hb3.mono b2.size)
      clear x2 b2 hb3 R2
      have q0 := x3.cell 0 _ rfl
      have q1 := x3.cell 1 _ rfl
      have f0 := x3.froz 0
      have f1 := x3.froz 1
      have HX := hide (two_set (x := .string xb) (y := .string yb) x3)
      have HB := hide (below_two (x := .string xb) (y := .string yb) b3 (Nat.le_refl _))
      clear x3 b3
      go_wp2_with fail
      (try simp only [Exit.inBlock, Exit.then])
      refine bodyPost_ret (results_cpp Tryz.results95 _ _ w.heap.size _ _ rfl (unhide HX)) rfl ?_
      exact ⟨rfl, unhide HB⟩
def RdBox (w : World) (b : Nat) (s : ByteArray) (a : Nat) : Prop := Blk w b #[.string s, .int .i64 (a : Int), .func (.func 95) #[] #[]] 126
def ErrIs (w : World) (a : Addr) : Prop := w.cell? ⟨0, 0, none⟩ = some (.iface 250 (.pointer (some a)))
set_option maxRecDepth 100000 in
set_option maxHeartbeats 4000000 in
theorem next_any (s : ByteArray) (a b : Nat) (ea : Addr) (hs : s.size ≤ 1048576) (hb0 : 0 < b) (w : World) (hR : RdBox w b s a) (hE : ErrIs w ea) :
    Calls Tryz.prog 117 #[.pointer (some ⟨b, 0, none⟩)] w fun e w' => (match rdP s a with | none => e = .returned (.tuple #[.agg #[.string ⟨#[]⟩, .string ⟨#[]⟩], .iface 250 (.pointer (some ea))]) ∧ RdBox w' b s a | some q => e = .returned (.tuple #[.agg #[.string q.1.1, .string q.1.2], .nilIface]) ∧ RdBox w' b s q.2) ∧ Kept (fun k => k = b) w w' := by
  have RP := hide (fun w => readPair_any s a hs w)
  obtain ⟨V1, hV1⟩ : ∃ W, W = w.alloc (Obj.cells #[.string ⟨#[]⟩, .string ⟨#[]⟩] 55) := ⟨_, rfl⟩
  have b1 : Below w.heap.size w V1 := by rw [hV1]; exact Gr.below_new _ _
  have x1 : Blk V1 w.heap.size #[.string ⟨#[]⟩, .string ⟨#[]⟩] 55 := by rw [hV1]; exact Gr.Blk.new0
  have r1 : RdBox V1 b s a := Gr.Blk.below hR b1
  have hbl : b < w.heap.size := Gr.Blk.lt hR
  have e1 : ErrIs V1 ea := (b1.cell (p := ⟨0, 0, none⟩) (by simp; omega)).trans hE
  have c0 : V1.cell? ⟨b, 0, none⟩ = some (.string s) := Gr.Blk.cell r1 0 _ rfl
  have c1 : V1.cell? ⟨b, 1, none⟩ = some (.int .i64 (a : Int)) := Gr.Blk.cell r1 1 _ rfl
  have c2 : V1.cell? ⟨b, 2, none⟩ = some (.func (.func 95) #[] #[]) := Gr.Blk.cell r1 2 _ rfl
  have hbl1 : b < V1.heap.size := Gr.Blk.lt r1
  have h01 : 0 < V1.heap.size := by omega
  clear hR hE
  cases hq : rdP s a with
  | none =>
    have RN : Hid (∀ w, Calls Tryz.prog 95 #[.string s, .int .i64 (a : Int)] w fun e w' => e = .returned (.tuple #[.agg #[.string ⟨#[]⟩, .string ⟨#[]⟩], .int .i64 0, .bool false]) ∧ Below w.heap.size w w') := fun w => by
      have h := unhide RP w
      rw [hq] at h
      exact h
    simp only
    go_enter Tryz.func117, Tryz.ntmps117
    go_upto_region 1 with fail
    rw [← hV1]
    clear hV1 hq
    go_cut [4, 5, 6] (fun p4 p5 p6 wx => ∃ T, p4 = .pointer (some ⟨T, 0, none⟩) ∧ p5 = .int .i64 0 ∧ p6 = .bool false ∧ V1.heap.size ≤ T ∧ Blk wx T #[.string ⟨#[]⟩, .string ⟨#[]⟩] 55 ∧ Below V1.heap.size V1 wx)
    case first =>
      go_region_held3 (fun u => u.cell? ⟨b, 0, none⟩ = some (.string s) ∧ u.cell? ⟨b, 1, none⟩ = some (.int .i64 (a : Int)) ∧ u.cell? ⟨b, 2, none⟩ = some (.func (.func 95) #[] #[]))
        (first | go_keep | exact ⟨k0, k1, k2⟩ | exact ⟨((Gr.below_new _ _).cell (p := ⟨b, 0, none⟩) hbl6).trans k0, ((Gr.below_new _ _).cell (p := ⟨b, 1, none⟩) hbl6).trans k1, ((Gr.below_new _ _).cell (p := ⟨b, 2, none⟩) hbl6).trans k2⟩ | exact ⟨(far_two 0 hbl1 _ _).trans k0, (far_two 1 hbl1 _ _).trans k1, (far_two 2 hbl1 _ _).trans k2⟩)
        (first
          | (go_at_call 95; refine (unhide RN _).mono ?_; rintro e w6 ⟨rfl, hb6⟩; have hV6 : Below V1.heap.size V1 w6 := (by first | exact (Below.refl _ V1).drew.trans hb6 | exact ((Gr.below_new V1 _).drew).trans (hb6.mono (Gr.below_new V1 _).size)); have k0 : w6.cell? ⟨b, 0, none⟩ = some (.string s) := (hV6.cell (p := ⟨b, 0, none⟩) hbl1).trans c0; have k1 : w6.cell? ⟨b, 1, none⟩ = some (.int .i64 (a : Int)) := (hV6.cell (p := ⟨b, 1, none⟩) hbl1).trans c1; have k2 : w6.cell? ⟨b, 2, none⟩ = some (.func (.func 95) #[] #[]) := (hV6.cell (p := ⟨b, 2, none⟩) hbl1).trans c2; have hbl6 : b < w6.heap.size := Nat.lt_of_lt_of_le hbl1 hV6.size; (first | (have hx6 : Blk w6 V1.heap.size #[.string ⟨#[]⟩, .string ⟨#[]⟩] 55 := Gr.Blk.below (Gr.Blk.drew Gr.Blk.new0) hb6; have t0 : w6.cell? ⟨V1.heap.size, 0, none⟩ = some (.string ⟨#[]⟩) := hx6.cell 0 _ rfl; have t1 : w6.cell? ⟨V1.heap.size, 1, none⟩ = some (.string ⟨#[]⟩) := hx6.cell 1 _ rfl; have t2 := hx6.froz 0; have t3 := hx6.froz 1) | skip)))
      all_goals
        have hz6 := hV6.size
        go_wp2_with fail
        go_meet
        first
          | exact ⟨_, rfl, rfl, rfl, Nat.le_refl _, two_set hx6, (hV6.setCell (p := ⟨V1.heap.size, 0, none⟩) (Nat.le_refl _) _).setCell (p := ⟨V1.heap.size, 1, none⟩) (Nat.le_refl _) _⟩
          | exact ⟨_, rfl, rfl, rfl, hz6, Gr.Blk.new0, hV6.trans ((Gr.below_new _ _).mono hz6)⟩
    case rest =>
      obtain ⟨T, rfl, rfl, rfl, hT, xT, hbx⟩ := hcut
      clear c0 c1 c2
      have rx : RdBox wc b s a := Gr.Blk.below r1 hbx
      have x2 : Blk wc w.heap.size #[.string ⟨#[]⟩, .string ⟨#[]⟩] 55 := x1.below hbx
      have ex : ErrIs wc ea := (hbx.cell (p := ⟨0, 0, none⟩) h01).trans e1
      have ex' : wc.cell? ⟨0, 0, none⟩ = some (.iface 250 (.pointer (some ea))) := ex
      have t0 : wc.cell? ⟨T, 0, none⟩ = some (.string ⟨#[]⟩) := xT.cell 0 _ rfl
      have t1 : wc.cell? ⟨T, 1, none⟩ = some (.string ⟨#[]⟩) := xT.cell 1 _ rfl
      have q0 : wc.cell? ⟨w.heap.size, 0, none⟩ = some (.string ⟨#[]⟩) := x2.cell 0 _ rfl
      have q1 : wc.cell? ⟨w.heap.size, 1, none⟩ = some (.string ⟨#[]⟩) := x2.cell 1 _ rfl
      have f0 := x2.froz 0
      have f1 := x2.froz 1
      have hbw : Below w.heap.size w wc := b1.trans (hbx.mono b1.size)
      have HX := hide (two_set (x := .string ⟨#[]⟩) (y := .string ⟨#[]⟩) x2)
      have HB := hide (below_two (x := .string ⟨#[]⟩) (y := .string ⟨#[]⟩) hbw (Nat.le_refl _))
      have HR := hide rx
      clear xT x2 rx ex hbw
      have HKB : Hid (∀ W, Below w.heap.size w W → Kept (fun k => k = b) w W) := fun W h => Kept.of_below h
      go_wp2_with fail
      go_region
      all_goals
        go_wp2_with fail
        (try simp only [Exit.inBlock, Exit.then])
        refine bodyPost_ret (results_cp Tryz.results117 _ _ w.heap.size _ _ rfl (unhide HX)) rfl ?_
        exact ⟨⟨rfl, Gr.Blk.kept (unhide HR) (S := fun k => k = w.heap.size) (Kept.drew (Kept.trans (Kept.set (S := fun k => k = w.heap.size) _ _ _ _ rfl) (Kept.set (S := fun k => k = w.heap.size) _ _ _ _ rfl))) (by omega)⟩, unhide HKB _ (unhide HB).drew⟩
  | some q =>
    obtain ⟨⟨qx, qy⟩, qe⟩ := q
    have RN : Hid (∀ w, Calls Tryz.prog 95 #[.string s, .int .i64 (a : Int)] w fun e w' => e = .returned (.tuple #[.agg #[.string qx, .string qy], .int .i64 (qe : Int), .bool true]) ∧ Below w.heap.size w w') := fun w => by
      have h := unhide RP w
      rw [hq] at h
      exact h
    simp only
    go_enter Tryz.func117, Tryz.ntmps117
    go_upto_region 1 with fail
    rw [← hV1]
    clear hV1 hq
    go_cut [4, 5, 6] (fun p4 p5 p6 wx => ∃ T, p4 = .pointer (some ⟨T, 0, none⟩) ∧ p5 = .int .i64 (qe : Int) ∧ p6 = .bool true ∧ V1.heap.size ≤ T ∧ Blk wx T #[.string qx, .string qy] 55 ∧ Below V1.heap.size V1 wx)
    case first =>
      go_region_held3 (fun u => u.cell? ⟨b, 0, none⟩ = some (.string s) ∧ u.cell? ⟨b, 1, none⟩ = some (.int .i64 (a : Int)) ∧ u.cell? ⟨b, 2, none⟩ = some (.func (.func 95) #[] #[]))
        (first | go_keep | exact ⟨k0, k1, k2⟩ | exact ⟨((Gr.below_new _ _).cell (p := ⟨b, 0, none⟩) hbl6).trans k0, ((Gr.below_new _ _).cell (p := ⟨b, 1, none⟩) hbl6).trans k1, ((Gr.below_new _ _).cell (p := ⟨b, 2, none⟩) hbl6).trans k2⟩ | exact ⟨(far_two 0 hbl1 _ _).trans k0, (far_two 1 hbl1 _ _).trans k1, (far_two 2 hbl1 _ _).trans k2⟩)
        (first
          | (go_at_call 95; refine (unhide RN _).mono ?_; rintro e w6 ⟨rfl, hb6⟩; have hV6 : Below V1.heap.size V1 w6 := (by first | exact (Below.refl _ V1).drew.trans hb6 | exact ((Gr.below_new V1 _).drew).trans (hb6.mono (Gr.below_new V1 _).size)); have k0 : w6.cell? ⟨b, 0, none⟩ = some (.string s) := (hV6.cell (p := ⟨b, 0, none⟩) hbl1).trans c0; have k1 : w6.cell? ⟨b, 1, none⟩ = some (.int .i64 (a : Int)) := (hV6.cell (p := ⟨b, 1, none⟩) hbl1).trans c1; have k2 : w6.cell? ⟨b, 2, none⟩ = some (.func (.func 95) #[] #[]) := (hV6.cell (p := ⟨b, 2, none⟩) hbl1).trans c2; have hbl6 : b < w6.heap.size := Nat.lt_of_lt_of_le hbl1 hV6.size; (first | (have hx6 : Blk w6 V1.heap.size #[.string ⟨#[]⟩, .string ⟨#[]⟩] 55 := Gr.Blk.below (Gr.Blk.drew Gr.Blk.new0) hb6; have t0 : w6.cell? ⟨V1.heap.size, 0, none⟩ = some (.string ⟨#[]⟩) := hx6.cell 0 _ rfl; have t1 : w6.cell? ⟨V1.heap.size, 1, none⟩ = some (.string ⟨#[]⟩) := hx6.cell 1 _ rfl; have t2 := hx6.froz 0; have t3 := hx6.froz 1) | skip)))
      all_goals
        have hz6 := hV6.size
        go_wp2_with fail
        go_meet
        first
          | exact ⟨_, rfl, rfl, rfl, Nat.le_refl _, two_set hx6, (hV6.setCell (p := ⟨V1.heap.size, 0, none⟩) (Nat.le_refl _) _).setCell (p := ⟨V1.heap.size, 1, none⟩) (Nat.le_refl _) _⟩
          | exact ⟨_, rfl, rfl, rfl, hz6, Gr.Blk.new0, hV6.trans ((Gr.below_new _ _).mono hz6)⟩
    case rest =>
      obtain ⟨T, rfl, rfl, rfl, hT, xT, hbx⟩ := hcut
      clear c0 c1 c2 e1
      have rx : RdBox wc b s a := Gr.Blk.below r1 hbx
      have x2 : Blk wc w.heap.size #[.string ⟨#[]⟩, .string ⟨#[]⟩] 55 := x1.below hbx
      have hz1 := b1.size
      have n1 : T ≠ b := by omega
      have n2 : b ≠ T := by omega
      have n3 : w.heap.size ≠ b := by omega
      have n4 : b ≠ w.heap.size := by omega
      have t0 : wc.cell? ⟨T, 0, none⟩ = some (.string qx) := xT.cell 0 _ rfl
      have t1 : wc.cell? ⟨T, 1, none⟩ = some (.string qy) := xT.cell 1 _ rfl
      have q0 : wc.cell? ⟨w.heap.size, 0, none⟩ = some (.string ⟨#[]⟩) := x2.cell 0 _ rfl
      have q1 : wc.cell? ⟨w.heap.size, 1, none⟩ = some (.string ⟨#[]⟩) := x2.cell 1 _ rfl
      have f0 := x2.froz 0
      have f1 := x2.froz 1
      have r9 : wc.cell? ⟨b, 1, none⟩ = some (.int .i64 (a : Int)) := Gr.Blk.cell rx 1 _ rfl
      have f9 := Gr.Blk.froz rx 1
      have hbw : Below w.heap.size w wc := b1.trans (hbx.mono b1.size)
      have HR : Hid (RdBox (wc.setCell ⟨b, 1, none⟩ (.int .i64 (qe : Int))) b s qe) := Gr.Blk.set rx 1 (.int .i64 (qe : Int))
      have x3 : Blk (wc.setCell ⟨b, 1, none⟩ (.int .i64 (qe : Int))) w.heap.size #[.string ⟨#[]⟩, .string ⟨#[]⟩] 55 := Gr.Blk.set_other x2 n3 1 _
      have HX := hide (two_set (x := .string qx) (y := .string qy) x3)
      have hk1 : Kept (fun k => k = b) w (wc.setCell ⟨b, 1, none⟩ (.int .i64 (qe : Int))) := Kept.trans (Kept.of_below hbw) (Kept.set (S := fun k => k = b) _ _ _ _ rfl)
      have HK1 := hide hk1
      clear xT x2 x3 rx hbw hk1
      go_wp2_with fail
      (try simp only [Exit.inBlock, Exit.then])
      refine bodyPost_ret (results_cp Tryz.results117 _ _ w.heap.size _ _ rfl (unhide HX)) rfl ?_
      have k9 : Kept (fun k => k = w.heap.size) (wc.setCell ⟨b, 1, none⟩ (.int .i64 (qe : Int))) (((wc.setCell ⟨b, 1, none⟩ (.int .i64 (qe : Int))).setCell ⟨w.heap.size, 0, none⟩ (.string qx)).setCell ⟨w.heap.size, 1, none⟩ (.string qy)) := Kept.trans (Kept.set (S := fun k => k = w.heap.size) _ _ _ _ rfl) (Kept.set (S := fun k => k = w.heap.size) _ _ _ _ rfl)
      exact ⟨⟨rfl, Gr.Blk.kept (unhide HR) k9 n4⟩, Kept.wide2 (unhide HK1) k9⟩
end Cy
end Go.Proofs.YtihnaddfpmjpaaaGreatDoor
