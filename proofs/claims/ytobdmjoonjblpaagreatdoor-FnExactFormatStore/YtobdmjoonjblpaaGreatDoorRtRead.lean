/-
  What a text tells as a root; the contract of spec.ReadRoot.
-/
import Derived.Test.YtobdmjoonjblpaaGreatDoorRtText
import Derived.Test.YtobdmjoonjblpaaGreatDoorDevTo2
import Derived.Laws.ResultCell
namespace Go.Proofs.YtobdmjoonjblpaaGreatDoor
namespace Rt
open Go.RowKit

def byteI (x : ByteArray) (i : Nat) : Nat := if h : i < x.size then (x[i]'h).toNat else 0

theorem byteI_lt (x : ByteArray) (i : Nat) : byteI x i < 256 := by
  unfold byteI; split
  · exact UInt8.toNat_lt _
  · omega

/-- The number of the bytes 1 .. j. -/
def serN (x : ByteArray) : Nat → Nat
  | 0 => 0
  | j + 1 => 256 * serN x j + byteI x (j + 1)

theorem serN_lt (x : ByteArray) (j : Nat) : serN x j < 256 ^ j := by
  induction j with
  | zero => simp [serN]
  | succ j ih =>
    have := byteI_lt x (j + 1)
    rw [serN, Nat.pow_succ]
    omega

def treN (x : ByteArray) : Nat := 256 * byteI x 5 + byteI x 6

/-- The root that a text tells. -/
def rootA (x : ByteArray) : Option (Int × Int) :=
  if x.size = 11 ∧ okR ((serN x 4 : Nat) : Int) (((treN x : Nat) : Int) - 1) = true ∧ (sealB (rootB ((serN x 4 : Nat) : Int) (((treN x : Nat) : Int) - 1))).toList = x.toList then some (((serN x 4 : Nat) : Int), ((treN x : Nat) : Int) - 1) else none

/-- What ReadRoot tells. -/
def rootV (x : ByteArray) : Value := match rootA x with
  | some (s, t) => .tuple #[.agg #[.int .i64 s, .int .i64 t], .bool true]
  | none => .tuple #[.agg #[.int .i64 0, .int .i64 0], .bool false]

theorem rootV_some {x : ByteArray} {s t : Int} (h : rootA x = some (s, t)) : rootV x = .tuple #[.agg #[.int .i64 s, .int .i64 t], .bool true] := by unfold rootV; rw [h]
theorem rootV_none {x : ByteArray} (h : rootA x = none) : rootV x = .tuple #[.agg #[.int .i64 0, .int .i64 0], .bool false] := by unfold rootV; rw [h]

set_option maxRecDepth 100000 in
set_option maxHeartbeats 1000000 in
theorem specReadRoot_short (x : ByteArray) (hx : x.size ≠ 11) (w : World) :
    Calls Tryz.prog 100 #[.string x] w fun e w' => e = .returned (rootV x) ∧ Below w.heap.size w w' := by
  rw [rootV_none (by unfold rootA; rw [if_neg (fun h => hx h.1)])]
  have hx2 : ¬ ((x.size : Int) = 11) := by omega
  clear hx
  go_enter Tryz.func100, Tryz.ntmps100
  go_wp2
  go_returns
  exact ⟨rfl, (Below.refl _ _).alloc (Nat.le_refl _) _⟩

/-- A root's variable. -/
def RBox (w : World) (g : Nat) (s t : Int) : Prop := w.heap[g]? = some (.cells #[.int .i64 s, .int .i64 t] 28 (0, 0))

theorem results_root {fn : Func} {p u : Tmp} (h : fn.results = #[.cell p 28, .tmp u]) (tmps : Array Value) (w : World) (g : Nat) (a b : Int) (hp : tmps.getD p undef = .pointer (some ⟨g, 0, none⟩)) (hg : RBox w g a b) :
    (results fn tmps).run Tryz.prog w = .ok (.tuple #[.agg #[.int .i64 a, .int .i64 b], tmps.getD u undef]) w := by
  have hr := run_loadVar_row (P := Tryz.prog) w g 28 28 #[.int .i64 a, .int .i64 b] (0, 0) _ hg Tryz.underlying28 rfl (by kernel_rfl)
  rw [results_cell_tmp h, hp]
  simp [asAddr, hr, Result.andThen]

theorem RBox.two {w : World} {g : Nat} {a b : Int} (h : RBox w g a b) (x y : Int) : RBox ((w.setCell ⟨g, 0, none⟩ (.int .i64 x)).setCell ⟨g, 1, none⟩ (.int .i64 y)) g x y :=
  two_one (two_zero h _) _

set_option maxRecDepth 100000 in
set_option maxHeartbeats 1000000 in
theorem specReadRoot_long (x : ByteArray) (hx : x.size = 11) (w : World) :
    Calls Tryz.prog 100 #[.string x] w fun e w' => e = .returned (rootV x) ∧ Below w.heap.size w w' := by
  have HX := hide hx
  have hx2 : (x.size : Int) = 11 := by omega
  clear hx
  go_enter Tryz.func100, Tryz.ntmps100
  go_wp2_with fail
  go_loopw [5] (fun a5 wr => ∃ i : Nat, a5 = .int .i64 (i : Int) ∧ 1 ≤ i ∧ i ≤ 5 ∧ RBox wr w.heap.size 0 0 ∧ RBox wr (w.heap.size + 1) ((serN x (i - 1) : Nat) : Int) 0 ∧ Below w.heap.size w wr) (fun a5 _ => 5 - (intOf a5).toNat)
  case atStart =>
    refine ⟨1, rfl, Nat.le_refl _, by omega, ?_, ?_, ((Below.refl _ _).alloc (Nat.le_refl _) _).alloc (by simp) _⟩
    · exact ((below_new1 _ _).block _ (by simp)).trans (heap_alloc_new w _)
    · have h := heap_alloc_new (w.alloc (Obj.cells #[Value.int .i64 0, Value.int .i64 0] 28)) (Obj.cells #[Value.int .i64 0, Value.int .i64 0] 28)
      rw [World.size_alloc] at h
      exact h
  case round =>
    obtain ⟨i, rfl, hi1, hi5, hb0, hb1, hb⟩ := hrel
    have HB0 := hide hb0
    have HB1 := hide hb1
    obtain ⟨p0, p1, pf⟩ := cells_of_two hb1
    have pf0 := pf 0
    have pf1 := pf 1
    have hl1 : w.heap.size + 1 < wr.heap.size := World.block_lt_of_cell? _ _ p0
    clear hb0 hb1 pf hx2
    by_cases hlt : i < 5
    · have hix : i < x.size := by have := unhide HX; omega
      have hs := serN_lt x (i - 1)
      have hse : serN x (i + 1 - 1) = 256 * serN x (i - 1) + byteI x i := by
        obtain ⟨j, rfl⟩ : ∃ j, i = j + 1 := ⟨i - 1, by omega⟩
        simp only [Nat.add_sub_cancel]
        rfl
      have hbe : byteI x i = (x[i]'hix).toNat := by unfold byteI; rw [dif_pos hix]
      have hs2 : serN x (i - 1) < 16777216 := by
        have h3 : (256 : Nat) ^ (i - 1) ≤ 256 ^ 3 := Nat.pow_le_pow_right (by omega) (by omega)
        omega
      have hbl := byteI_lt x i
      rw [hbe] at hse hbl
      have HSE := hide hse
      have hbl2 : ((x[i]'hix).toNat : Int) ≤ 255 := by omega
      have hi0 : (0 : Int) ≤ (i : Int) := by omega
      have hi6 : (i : Int) < 5 := by omega
      have hi7 : (i : Int) < (x.size : Int) := by omega
      generalize serN x (i - 1) = y at p0 HB1 hs2 HSE
      have hy1 : (y : Int) < 16777216 := by omega
      have hy0 : (0 : Int) ≤ (y : Int) := by omega
      have hw1 : IntKind.i64.wrap (256 * (y : Int)) = 256 * (y : Int) := IntWalk.i64_in _ ⟨by omega, by omega⟩
      have hw2 : IntKind.i64.wrap (256 * (y : Int) + ((x[i]'hix).toNat : Int)) = 256 * (y : Int) + ((x[i]'hix).toNat : Int) := IntWalk.i64_in _ ⟨by omega, by omega⟩
      have HN : Hid (((256 * y + (x[i]'hix).toNat : Nat) : Int) = 256 * (y : Int) + ((x[i]'hix).toNat : Int)) := by show _ = _; omega
      clear hs hse hbe hbl
      go_wp2_with fail
      go_big_region
      have HR1 : Hid (RBox (wr.setCell ⟨w.heap.size + 1, 0, none⟩ (.int .i64 (256 * (y : Int) + ((x[i]'hix).toNat : Int)))) (w.heap.size + 1) ((serN x (i + 1 - 1) : Nat) : Int) 0) := by
        show RBox _ _ _ _
        rw [unhide HSE, unhide HN]
        exact two_zero (unhide HB1) _
      have HR0 : Hid (RBox (wr.setCell ⟨w.heap.size + 1, 0, none⟩ (.int .i64 (256 * (y : Int) + ((x[i]'hix).toNat : Int)))) w.heap.size 0 0) :=
        (((Below.refl (w.heap.size + 1) wr).setCell (p := ⟨w.heap.size + 1, 0, none⟩) (Nat.le_refl _) _).block w.heap.size (by omega)).trans (unhide HB0)
      have hbn : Below w.heap.size w (wr.setCell ⟨w.heap.size + 1, 0, none⟩ (.int .i64 (256 * (y : Int) + ((x[i]'hix).toNat : Int)))).drew := (hb.setCell (p := ⟨w.heap.size + 1, 0, none⟩) (by simp) _).drew
      clear p0 p1 pf0 pf1
      go_wp2
      go_roundw
      case rel => exact ⟨i + 1, by go_num, by omega, by omega, unhide HR0, unhide HR1, hbn⟩
      case measure => simp [intOf]; omega
    · obtain rfl : i = 5 := by omega
      have h5 : 5 < x.size := by have := unhide HX; omega
      have h6 : 6 < x.size := by have := unhide HX; omega
      have hi6 : ¬ ((5 : Nat) : Int) < 5 := by omega
      have hi7 : (5 : Int) < (x.size : Int) := by omega
      have hi8 : (6 : Int) < (x.size : Int) := by omega
      have hb5 : byteI x 5 = (x[5]'h5).toNat := by unfold byteI; rw [dif_pos h5]
      have hb6 : byteI x 6 = (x[6]'h6).toNat := by unfold byteI; rw [dif_pos h6]
      have hl5 := byteI_lt x 5
      have hl6 := byteI_lt x 6
      obtain ⟨e5, he5⟩ : ∃ e : Int, e = ((x[5]'h5).toNat : Int) := ⟨_, rfl⟩
      obtain ⟨e6, he6⟩ : ∃ e : Int, e = ((x[6]'h6).toNat : Int) := ⟨_, rfl⟩
      have htn : ((treN x : Nat) : Int) - (1 : Int) = 256 * e5 + e6 - 1 := by unfold treN; rw [hb5, hb6, he5, he6]; omega
      have HRA : Hid (rootA x = if x.size = 11 ∧ okR ((serN x 4 : Nat) : Int) (((treN x : Nat) : Int) - 1) = true ∧ (sealB (rootB ((serN x 4 : Nat) : Int) (((treN x : Nat) : Int) - 1))).toList = x.toList then some (((serN x 4 : Nat) : Int), ((treN x : Nat) : Int) - 1) else none) := rfl
      rw [htn, he5, he6] at HRA
      clear htn he5 he6
      rw [hb5] at hl5
      rw [hb6] at hl6
      simp only [Nat.add_one_sub_one] at HB1 p0
      have hw1 : IntKind.i64.wrap (256 * ((x[5]'h5).toNat : Int)) = 256 * ((x[5]'h5).toNat : Int) := IntWalk.i64_in _ ⟨by omega, by omega⟩
      have hw2 : IntKind.i64.wrap (256 * ((x[5]'h5).toNat : Int) + ((x[6]'h6).toNat : Int)) = 256 * ((x[5]'h5).toNat : Int) + ((x[6]'h6).toNat : Int) := IntWalk.i64_in _ ⟨by omega, by omega⟩
      have hw3 : IntKind.i64.wrap (256 * ((x[5]'h5).toNat : Int) + ((x[6]'h6).toNat : Int) - 1) = 256 * ((x[5]'h5).toNat : Int) + ((x[6]'h6).toNat : Int) - 1 := IntWalk.i64_in _ ⟨by omega, by omega⟩
      generalize ((serN x 4 : Nat) : Int) = sn at HB1 p0 HRA
      clear hb5 hb6
      go_wp2_with fail
      go_big_region
      generalize 256 * ((x[5]'h5).toNat : Int) + ((x[6]'h6).toNat : Int) - 1 = tn at HRA ⊢
      obtain ⟨V, hV⟩ : ∃ V, V = (wr.setCell ⟨w.heap.size + 1, 1, none⟩ (.int .i64 tn)).drew := ⟨_, rfl⟩
      have r1 : RBox V (w.heap.size + 1) sn tn := by rw [hV]; exact two_one (unhide HB1) _
      have r0 : RBox V w.heap.size 0 0 := by
        rw [hV]
        exact (((Below.refl (w.heap.size + 1) wr).setCell (p := ⟨w.heap.size + 1, 1, none⟩) (Nat.le_refl _) _).block w.heap.size (by omega)).trans (unhide HB0)
      have hbV : Below w.heap.size w V := by rw [hV]; exact (hb.setCell (p := ⟨w.heap.size + 1, 1, none⟩) (by simp) _).drew
      rw [← hV]
      have HR1 := hide r1
      have HR0 := hide r0
      obtain ⟨q0, q1, _⟩ := cells_of_two r1
      have hlV : w.heap.size + 1 < V.heap.size := World.block_lt_of_cell? _ _ q0
      clear hV r1 r0 p0 p1 pf0 pf1 HB0 HB1 hb hw1 hw2 hw3
      have HRT := hide (fun w => specRoot_any sn tn w)
      cases hok : okR sn tn
      · have hrt : rootT sn tn = .tuple #[.string ⟨#[]⟩, .bool false] := by unfold rootT; rw [hok]; rfl
        rw [hrt] at HRT
        have HV : Hid (rootV x = .tuple #[.agg #[.int .i64 0, .int .i64 0], .bool false]) := rootV_none (by rw [unhide HRA, if_neg (fun h => by rw [hok] at h; cases h.2.1)])
        clear hrt hok HRA
        go_wp2_with fail
        refine (unhide HRT _).mono ?_
        rintro e w2 ⟨rfl, hb2⟩
        have s0 : RBox w2 w.heap.size 0 0 := (hb2.block _ (by omega)).trans (unhide HR0)
        have hb3 := hbV.trans (hb2.mono hbV.size)
        obtain ⟨t0, t1, tf⟩ := cells_of_two s0
        have tf0 := tf 0
        have tf1 := tf 1
        have HS0 := hide s0
        clear s0 tf q0 q1 hb2
        go_wp2
        (try simp only [Exit.inBlock, Exit.then])
        refine bodyPost_ret (results_root Tryz.results100 _ _ w.heap.size _ _ rfl ((unhide HS0).two _ _)) rfl ?_
        exact ⟨by rw [unhide HV]; rfl, (hb3.setCell (p := ⟨w.heap.size, 0, none⟩) (by simp) _).setCell (p := ⟨w.heap.size, 1, none⟩) (by simp) _⟩
      · have hrt : rootT sn tn = .tuple #[.string (sealB (rootB sn tn)), .bool true] := by unfold rootT; rw [hok]; rfl
        rw [hrt] at HRT
        cases hq : ((sealB (rootB sn tn)).toList == x.toList)
        · have HV : Hid (rootV x = .tuple #[.agg #[.int .i64 0, .int .i64 0], .bool false]) := rootV_none (by rw [unhide HRA, if_neg (fun h => by rw [beq_eq_false_iff_ne] at hq; exact hq h.2.2)])
          generalize sealB (rootB sn tn) = z at HRT hq
          clear hrt hok HRA
          go_wp2_with fail
          refine (unhide HRT _).mono ?_
          rintro e w2 ⟨rfl, hb2⟩
          have s0 : RBox w2 w.heap.size 0 0 := (hb2.block _ (by omega)).trans (unhide HR0)
          have hb3 := hbV.trans (hb2.mono hbV.size)
          obtain ⟨t0, t1, tf⟩ := cells_of_two s0
          have tf0 := tf 0
          have tf1 := tf 1
          have HS0 := hide s0
          clear s0 tf q0 q1 hb2
          go_wp2
          (try simp only [Exit.inBlock, Exit.then])
          refine bodyPost_ret (results_root Tryz.results100 _ _ w.heap.size _ _ rfl ((unhide HS0).two _ _)) rfl ?_
          exact ⟨by rw [unhide HV]; rfl, (hb3.setCell (p := ⟨w.heap.size, 0, none⟩) (by simp) _).setCell (p := ⟨w.heap.size, 1, none⟩) (by simp) _⟩
        · have HV : Hid (rootV x = .tuple #[.agg #[.int .i64 sn, .int .i64 tn], .bool true]) := rootV_some (by rw [unhide HRA, if_pos ⟨unhide HX, hok, by simpa using hq⟩])
          generalize sealB (rootB sn tn) = z at HRT hq
          clear hrt hok HRA
          go_wp2_with fail
          refine (unhide HRT _).mono ?_
          rintro e w2 ⟨rfl, hb2⟩
          have s0 : RBox w2 w.heap.size 0 0 := (hb2.block _ (by omega)).trans (unhide HR0)
          have s1 : RBox w2 (w.heap.size + 1) sn tn := (hb2.block _ hlV).trans (unhide HR1)
          have hb3 := hbV.trans (hb2.mono hbV.size)
          obtain ⟨t0, t1, tf⟩ := cells_of_two s0
          obtain ⟨v0, v1, _⟩ := cells_of_two s1
          have tf0 := tf 0
          have tf1 := tf 1
          have HS0 := hide s0
          clear s0 s1 tf q0 q1 hb2
          go_wp2
          (try simp only [Exit.inBlock, Exit.then])
          refine bodyPost_ret (results_root Tryz.results100 _ _ w.heap.size _ _ rfl ((unhide HS0).two _ _)) rfl ?_
          exact ⟨by rw [unhide HV]; rfl, (hb3.setCell (p := ⟨w.heap.size, 0, none⟩) (by simp) _).setCell (p := ⟨w.heap.size, 1, none⟩) (by simp) _⟩

theorem specReadRoot_any (x : ByteArray) (w : World) :
    Calls Tryz.prog 100 #[.string x] w fun e w' => e = .returned (rootV x) ∧ Below w.heap.size w w' := by
  by_cases h : x.size = 11
  · exact specReadRoot_long x h w
  · exact specReadRoot_short x h w
end Rt
end Go.Proofs.YtobdmjoonjblpaaGreatDoor
