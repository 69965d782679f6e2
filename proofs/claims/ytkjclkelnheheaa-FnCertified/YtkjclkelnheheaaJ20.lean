/-
 SvR2, SvW1, SvL0, SvS1.
-/
import Derived.Test.YtkjclkelnheheaaJ19
import Derived.Test.YtkjclkelnheheaaJ9
namespace Go.Proofs.Ytkjclkelnheheaa
namespace Sv
open Go.RowKit Gr
def slackF (N : List Nd) (A B : Nat) : List Nat → Int → Int
  | [], acc => acc
  | i :: r, acc => slackF N A B r (if (!(nd N i).gone && win N A i && win N B i) = true then wrap64 (acc + (nd N i).z) else acc)
def slack0 (y : List Int) (e : EdgeI) : Int := wrap64 (wrap64 (y.getD e.A.toNat 0 + y.getD e.B.toNat 0) - wrap64 (2 * scal e))
def slack (s : Nat) (y : List Int) (N : List Nd) (e : EdgeI) : Int := slackF N e.A.toNat e.B.toNat (List.range' s (N.length - s)) (slack0 y e)
theorem range_step (j n : Nat) (h : j < n) : List.range' j (n - j) = j :: List.range' (j + 1) (n - (j + 1)) := by
  rw [show n - j = (n - (j + 1)) + 1 by omega]; rfl
section
variable {w : World} {b lo : Nat} {aQ : Option Addr} {cQ s : Nat} {Q : List EdgeI} {y : List Int} {N : List Nd} {M : List Lk} {k : Int} {d : Bool} {vv : Vs}
theorem RunAt.ycells (h : RunAt w b lo aQ cQ s Q y N M k d vv) (hy : 0 < y.length) : ∃ g c, vv.y = .slice (some ⟨g, 0, none⟩) y.length c ∧ g < w.heap.size ∧ w.cell? ⟨b, 2, none⟩ = some (.slice (some ⟨g, 0, none⟩) y.length c) ∧ ∀ j, j < y.length → w.cell? ⟨g, j, none⟩ = some (.int .i64 (y.getD j 0)) := by
  have hb := h.box.cell 2 _ rfl
  rcases h.ys.2 with ⟨_, h0⟩ | ⟨g, cap, cur, e, h1, h2, _⟩
  · omega
  · rw [e] at hb
    refine ⟨g, cap, e, (h.ys.lt g (by rw [e]; rfl)).2, hb, fun j hj => ?_⟩
    have := h.ys.cells (g := g) (by rw [e]; rfl) j (.int .i64 (y.getD j 0)) (by rw [getD_at _ _ _ hj]; simp [intsV, hj])
    rwa [addr_add] at this
set_option maxRecDepth 100000 in
set_option maxHeartbeats 4000000 in
theorem slack_any (h : RunAt w b lo aQ cQ s Q y N M k d vv) (hlo : lo ≤ w.heap.size) (hU : Ups N) (hn : N.length ≤ 1000000) (hs : s ≤ N.length) (hy : y.length = s) (e : EdgeI) (hA : 0 ≤ e.A ∧ e.A < (s : Int)) (hB : 0 ≤ e.B ∧ e.B < (s : Int)) :
    Calls Try.prog 77 #[.pointer (some ⟨b, 0, none⟩), e.v] w fun u w' => u = .returned (.int .i64 (slack s y N e)) ∧ Below w.heap.size w w' := by
  have SC := hide (fun w1 => specScalar_any e w1)
  have HW := hide (fun w1 (hb : Below w.heap.size w w1) v x hv => win_any (h.below hb hlo) hU hn v x hv)
  have HSL : Hid (slack s y N e = slackF N e.A.toNat e.B.toNat (List.range' s (N.length - s)) (slack0 y e)) := rfl
  have HS0 : Hid (slack0 y e = wrap64 (wrap64 (y.getD e.A.toNat 0 + y.getD e.B.toNat 0) - wrap64 (2 * scal e))) := rfl
  generalize scal e = sc at SC HS0
  generalize slack s y N e = T at HSL
  generalize slack0 y e = S0 at HSL HS0
  obtain ⟨eA, eB, e1, e2, e3⟩ := e
  simp only at hA hB HSL HS0
  obtain ⟨A, rfl⟩ := Int.eq_ofNat_of_zero_le hA.1
  obtain ⟨B, rfl⟩ := Int.eq_ofNat_of_zero_le hB.1
  rw [Int.toNat_natCast, Int.toNat_natCast] at HSL HS0
  unfold EdgeI.v at SC ⊢
  simp only at SC ⊢
  obtain ⟨gy, cy, _, hgy, q2, hcy⟩ := h.ycells (by omega)
  have yA := hcy A (by omega)
  have yB := hcy B (by omega)
  generalize y.getD A 0 = a at yA HS0
  generalize y.getD B 0 = c at yB HS0
  rw [hy] at q2
  obtain ⟨g, cn, _, _, hg, q3, hc⟩ := h.node (by omega)
  have HC : Hid (∀ j, j < N.length → w.cell? ⟨g, j * 6 + 3, none⟩ = some (.int .i64 (nd N j).z) ∧ w.cell? ⟨g, j * 6 + 5, none⟩ = some (.bool (nd N j).gone)) := fun j hj => ⟨(hc j hj).2.2.2.1, (hc j hj).2.2.2.2.2⟩
  have q0 := h.box.cell 0 _ rfl
  have hblt := h.box.lt
  have HST : Hid (∀ j acc, j < N.length → slackF N A B (List.range' j (N.length - j)) acc = slackF N A B (List.range' (j + 1) (N.length - (j + 1))) (if (!(nd N j).gone && win N A j && win N B j) = true then wrap64 (acc + (nd N j).z) else acc)) := fun j acc hj => by rw [range_step j _ hj]; rfl
  have HEND : Hid (∀ acc, slackF N A B (List.range' N.length (N.length - N.length)) acc = acc) := fun acc => by rw [Nat.sub_self]; rfl
  have hAN : A < N.length := by omega
  have hBN : B < N.length := by omega
  have HWA := hide (fun w1 hb x => unhide HW w1 hb A x hAN)
  have HWB := hide (fun w1 hb x => unhide HW w1 hb B x hBN)
  have hxA : (A : Int) < (s : Int) := by omega
  have hxB : (B : Int) < (s : Int) := by omega
  clear hc hcy h HW hU hA hB hy
  obtain ⟨n, hN⟩ : ∃ n, n = N.length := ⟨_, rfl⟩
  rw [← hN] at q3 hn hs HSL HC HST HEND
  clear hN hAN hBN
  go_enter Try.func77, Try.ntmps77
  go_wp2_with fail
  obtain ⟨V, hV⟩ : ∃ W, W = w.alloc (Obj.cells #[.int .i64 (A : Int), .int .i64 (B : Int), .int .i64 e1, .int .i64 e2, .int .i64 e3] 68) := ⟨_, rfl⟩
  have bV : Below w.heap.size w V := by rw [hV]; exact below_new _ _
  have mV : Blk V w.heap.size #[.int .i64 (A : Int), .int .i64 (B : Int), .int .i64 e1, .int .i64 e2, .int .i64 e3] 68 := by rw [hV]; exact Blk.new0
  rw [← hV]
  clear hV
  have zV := mV.lt
  have k2 : ∀ d : Grown V.heap.size V, d.w.cell? ⟨b, 2, none⟩ = some (.slice (some ⟨gy, 0, none⟩) s cy) := fun d => d.cell (by omega) ((bV.cell (p := ⟨b, 2, none⟩) hblt).trans q2)
  have kA : ∀ d : Grown V.heap.size V, d.w.cell? ⟨gy, A, none⟩ = some (.int .i64 a) := fun d => d.cell (by omega) ((bV.cell (p := ⟨gy, A, none⟩) hgy).trans yA)
  have kB : ∀ d : Grown V.heap.size V, d.w.cell? ⟨gy, B, none⟩ = some (.int .i64 c) := fun d => d.cell (by omega) ((bV.cell (p := ⟨gy, B, none⟩) hgy).trans yB)
  have m0 : ∀ d : Grown V.heap.size V, d.w.cell? ⟨w.heap.size, 0, none⟩ = some (.int .i64 (A : Int)) := fun d => d.cell zV (mV.cell 0 _ rfl)
  have m1 : ∀ d : Grown V.heap.size V, d.w.cell? ⟨w.heap.size, 1, none⟩ = some (.int .i64 (B : Int)) := fun d => d.cell zV (mV.cell 1 _ rfl)
  have m2 : ∀ d : Grown V.heap.size V, d.w.cell? ⟨w.heap.size, 2, none⟩ = some (.int .i64 e1) := fun d => d.cell zV (mV.cell 2 _ rfl)
  have m3 : ∀ d : Grown V.heap.size V, d.w.cell? ⟨w.heap.size, 3, none⟩ = some (.int .i64 e2) := fun d => d.cell zV (mV.cell 3 _ rfl)
  have m4 : ∀ d : Grown V.heap.size V, d.w.cell? ⟨w.heap.size, 4, none⟩ = some (.int .i64 e3) := fun d => d.cell zV (mV.cell 4 _ rfl)
  have hx0 : (0 : Int) ≤ (A : Int) := by omega
  have hx1 : (0 : Int) ≤ (B : Int) := by omega
  refine wp_region_grown V.heap.size (by kernel_rfl) (by kernel_rfl) ?_
  repeat (go_big_quiet_step (first
    | (go_at_call 46; exact Calls.grown (Nat.le_refl _) (unhide SC _))))
  refine wpQuiet_nil ?_
  rintro w5 ⟨d5, rfl⟩
  obtain ⟨W5, hb5⟩ := d5
  dsimp only
  clear k2 kA kB m0 m1 m2 m3 m4 SC yA yB q2
  have B5 : Below w.heap.size w W5 := bV.trans (hb5.mono bV.size)
  have mW := mV.below hb5
  have p0 : W5.cell? ⟨b, 0, none⟩ = some (.int .i64 (s : Int)) := (B5.cell (p := ⟨b, 0, none⟩) hblt).trans q0
  have p3 : W5.cell? ⟨b, 3, none⟩ = some (.slice (some ⟨g, 0, none⟩) n cn) := (B5.cell (p := ⟨b, 3, none⟩) hblt).trans q3
  have n0 : W5.cell? ⟨w.heap.size, 0, none⟩ = some (.int .i64 (A : Int)) := mW.cell 0 _ rfl
  have n1 : W5.cell? ⟨w.heap.size, 1, none⟩ = some (.int .i64 (B : Int)) := mW.cell 1 _ rfl
  have HC5 : Hid (∀ j, j < n → W5.cell? ⟨g, j * 6 + 3, none⟩ = some (.int .i64 (nd N j).z) ∧ W5.cell? ⟨g, j * 6 + 5, none⟩ = some (.bool (nd N j).gone)) := fun j hj => ⟨(B5.cell (p := ⟨g, j * 6 + 3, none⟩) hg).trans (unhide HC j hj).1, (B5.cell (p := ⟨g, j * 6 + 5, none⟩) hg).trans (unhide HC j hj).2⟩
  have WA := hide (unhide HWA W5 B5)
  have WB := hide (unhide HWB W5 B5)
  clear mV mW bV zV hb5 HWA HWB q0 q3 HC
  go_wp2_with fail
  go_loop [5, 6] (fun a5 a6 => ∃ (j : Nat) (acc : Int), a6 = .int .i64 (j : Int) ∧ a5 = .int .i64 acc ∧ j ≤ n ∧ Hid (T = slackF N A B (List.range' j (n - j)) acc)) (fun _ a6 => n - (intOf a6).toNat)
  case atStart => exact ⟨s, S0, rfl, by rw [unhide HS0], hs, HSL⟩
  case round =>
    obtain ⟨j, acc, rfl, rfl, hj, HT⟩ := hrel
    by_cases hlt : j < n
    · obtain ⟨cz, cg⟩ := unhide HC5 j hlt
      have HT2 := hide ((unhide HT).trans (unhide HST j acc hlt))
      have WAj := hide (unhide WA j)
      have WBj := hide (unhide WB j)
      generalize (nd N j).z = z at cz HT2
      generalize (nd N j).gone = gn at cg HT2
      generalize win N A j = wa at WAj HT2
      generalize win N B j = wb at WBj HT2
      have hj0 : (0 : Int) ≤ (j : Int) := by omega
      have hj1 : (j : Int) < (n : Int) := by omega
      cases gn with
      | true =>
        simp only [Bool.not_true, Bool.false_and, Bool.false_eq_true, if_false] at HT2
        go_wp2
        go_round
        case rel => exact ⟨j + 1, acc, by go_num, rfl, by omega, HT2⟩
        case measure => simp [intOf]; omega
      | false =>
        simp only [Bool.not_false, Bool.true_and] at HT2
        go_wp2_with fail
        refine (unhide WAj).mono ?_
        rintro u w6 ⟨rfl, rfl⟩
        cases wa with
        | false =>
          simp only [Bool.false_and, Bool.false_eq_true, if_false] at HT2
          go_wp2
          go_round
          case rel => exact ⟨j + 1, acc, by go_num, rfl, by omega, HT2⟩
          case measure => simp [intOf]; omega
        | true =>
          simp only [Bool.true_and] at HT2
          go_wp2_with fail
          refine (unhide WBj).mono ?_
          rintro u w7 ⟨rfl, rfl⟩
          cases wb with
          | false =>
            simp only [Bool.false_eq_true, if_false] at HT2
            go_wp2
            go_round
            case rel => exact ⟨j + 1, acc, by go_num, rfl, by omega, HT2⟩
            case measure => simp [intOf]; omega
          | true =>
            simp only [if_true] at HT2
            go_wp2
            go_round
            case rel => exact ⟨j + 1, _, by go_num, rfl, by omega, HT2⟩
            case measure => simp [intOf]; omega
    · obtain rfl : j = n := by omega
      have hT : T = acc := (unhide HT).trans (unhide HEND acc)
      subst hT
      have hj1 : ¬ (j : Int) < (j : Int) := by omega
      go_wp2
      go_ret
      exact ⟨rfl, B5⟩
def firstF (N : List Nd) (lb : List Nat) : List Nat → Int
  | [] => -1
  | i :: r => if ((!(nd N i).gone && decide (upA N i < 0)) && ((nd N i).z == 0) && (lb.length == 0 || lb.getD i 0 == 2)) = true then (i : Int) else firstF N lb r
def firstOf (s : Nat) (N : List Nd) (lb : List Nat) : Int := firstF N lb (List.range' s (N.length - s))
def natI (L : List Nat) : List Int := L.map fun (n : Nat) => (n : Int)
set_option maxRecDepth 100000 in
set_option maxHeartbeats 4000000 in
theorem first_any (h : RunAt w b lo aQ cQ s Q y N M k d vv) (hn : N.length ≤ 1000000) (hs : s ≤ N.length) (lb : List Nat) (aL : Option Addr) (cL BL : Nat) (hl : lb.length = 0 ∨ lb.length = N.length) (hL : IntsAt w aL lb.length BL (natI lb)) :
    Calls Try.prog 79 #[.pointer (some ⟨b, 0, none⟩), .slice aL lb.length cL] w fun u w' => u = .returned (.int .i64 (firstOf s N lb)) ∧ w' = w := by
  have HSL : Hid (firstOf s N lb = firstF N lb (List.range' s (N.length - s))) := rfl
  generalize firstOf s N lb = T at HSL
  have HST : Hid (∀ j, j < N.length → firstF N lb (List.range' j (N.length - j)) = if ((!(nd N j).gone && decide (upA N j < 0)) && ((nd N j).z == 0) && (lb.length == 0 || lb.getD j 0 == 2)) = true then (j : Int) else firstF N lb (List.range' (j + 1) (N.length - (j + 1)))) := fun j hj => by rw [range_step j _ hj]; rfl
  have HEND : Hid (firstF N lb (List.range' N.length (N.length - N.length)) = -1) := by rw [Nat.sub_self]; rfl
  have IT := hide (fun v hv => isTop_any h hn v hv)
  have q0 := h.box.cell 0 _ rfl
  have q3' := h.box.cell 3 _ rfl
  have HNC : Hid (∀ j, j < N.length → ∃ g c, vv.n = .slice (some ⟨g, 0, none⟩) N.length c ∧ w.cell? ⟨g, j * 6 + 3, none⟩ = some (.int .i64 (nd N j).z)) := fun j hj => by
    obtain ⟨g, c, e, _, _, _, hc⟩ := h.node (by omega)
    exact ⟨g, c, e, (hc j hj).2.2.2.1⟩
  obtain ⟨an, cn, en⟩ : ∃ a c, vv.n = .slice a N.length c := by
    rcases h.ns.2 with ⟨e, h0⟩ | ⟨g, cap, cur, e, _⟩
    · exact ⟨none, 0, by rw [e, h0]⟩
    · exact ⟨_, _, e⟩
  rw [en] at q3' HNC
  have HLC : Hid (lb.length ≠ 0 → ∀ j, j < N.length → ∃ g off, aL = some ⟨g, off, none⟩ ∧ w.cell? ⟨g, off + j, none⟩ = some (.int .i64 ((lb.getD j 0 : Nat) : Int))) := fun h0 j hj => by
    have hjl : j < lb.length := by omega
    obtain ⟨g, off, e1, _, e2⟩ := hL.2 j (by simp [natI]; exact hjl)
    refine ⟨g, off, e1, ?_⟩
    rw [e2, getD_at _ _ _ hjl]
    simp [natI]
  have HLL := hide hl
  clear h hL hl en
  obtain ⟨n, hN⟩ : ∃ n, n = N.length := ⟨_, rfl⟩
  rw [← hN] at q3' hn hs HSL HST HEND IT HNC HLC HLL
  clear hN
  obtain ⟨l, hl⟩ : ∃ l, l = lb.length := ⟨_, rfl⟩
  rw [← hl] at HST HLC HLL ⊢
  clear hl
  go_enter Try.func79, Try.ntmps79
  go_wp2_with fail
  go_loop [5] (fun a5 => ∃ j : Nat, a5 = .int .i64 (j : Int) ∧ j ≤ n ∧ Hid (T = firstF N lb (List.range' j (n - j)))) (fun a5 => n - (intOf a5).toNat)
  case atStart => exact ⟨s, rfl, hs, HSL⟩
  case round =>
    obtain ⟨j, rfl, hj, HT⟩ := hrel
    by_cases hlt : j < n
    · have hj0 : (0 : Int) ≤ (j : Int) := by omega
      have hj1 : (j : Int) < (n : Int) := by omega
      have IT1 := hide (unhide IT j hlt)
      have HT2 := hide ((unhide HT).trans (unhide HST j hlt))
      obtain ⟨g, c, e, cz⟩ := unhide HNC j hlt
      simp at e
      obtain ⟨rfl, rfl⟩ := e
      have HLj := hide (fun h0 => unhide HLC h0 j hlt)
      generalize (!(nd N j).gone && decide (upA N j < 0)) = it at IT1 HT2
      generalize (nd N j).z = z at cz HT2
      generalize lb.getD j 0 = lj at HLj HT2
      go_wp2_with fail
      refine (unhide IT1).mono ?_
      rintro u w6 ⟨rfl, rfl⟩
      cases it with
      | false =>
        simp only [Bool.false_and, Bool.false_eq_true, if_false] at HT2
        go_wp2
        go_round
        case rel => exact ⟨j + 1, by go_num, by omega, HT2⟩
        case measure => simp [intOf]; omega
      | true =>
        simp only [Bool.true_and] at HT2
        cases hz : (z == 0) with
        | false =>
          rw [hz] at HT2
          simp only [Bool.false_and, Bool.false_eq_true, if_false] at HT2
          go_wp2
          go_round
          case rel => exact ⟨j + 1, by go_num, by omega, HT2⟩
          case measure => simp [intOf]; omega
        | true =>
          rw [hz] at HT2
          simp only [Bool.true_and] at HT2
          by_cases hl0 : l = 0
          · subst hl0
            simp only [BEq.rfl, Bool.true_or, if_true] at HT2
            have hT : T = (j : Int) := unhide HT2
            subst hT
            go_wp2
            go_ret
            exact ⟨rfl, rfl⟩
          · have hlb : (l == 0) = false := by simp [hl0]
            rw [hlb] at HT2
            simp only [Bool.false_or] at HT2
            have hln : l = n := by have := unhide HLL; omega
            subst hln
            obtain ⟨gl, off, rfl, cl⟩ := unhide HLj hl0
            have hlq : ((l : Int) == 0) = false := by simp [hl0]
            cases h2 : (lj == 2) with
            | true =>
              rw [h2, if_pos rfl] at HT2
              have hT : T = (j : Int) := unhide HT2
              subst hT
              have h2q : ((lj : Int) == 2) = true := by simp at h2 ⊢; omega
              go_wp2
              go_ret
              exact ⟨rfl, rfl⟩
            | false =>
              rw [h2] at HT2
              simp only [Bool.false_eq_true, if_false] at HT2
              have h2q : ((lj : Int) == 2) = false := by simp at h2 ⊢; omega
              go_wp2
              go_round
              case rel => exact ⟨j + 1, by go_num, by omega, HT2⟩
              case measure => simp [intOf]; omega
    · obtain rfl : j = n := by omega
      have hT : T = -1 := (unhide HT).trans (unhide HEND)
      subst hT
      have hj1 : ¬ (j : Int) < (j : Int) := by omega
      go_wp2
      go_ret
      exact ⟨rfl, rfl⟩
end
/-- Labels in memory. -/
structure TpAt (w : World) (bt lo : Nat) (t : Tp) (vl va vr : Value) : Prop where
  box : Blk w bt #[vl, va, vr] 122
  lab : NaOwn w lo vl t.label
  ahd : LkOwn w lo va t.ahead
  rot : NaOwn w lo vr t.root
theorem TpAt.below {w w' : World} {bt lo : Nat} {t : Tp} {vl va vr : Value} (h : TpAt w bt lo t vl va vr) (hb : Below w.heap.size w w') : TpAt w' bt lo t vl va vr :=
  ⟨h.box.below hb, own_below h.lab hb, own_below h.ahd hb, own_below h.rot hb⟩
theorem na_cells {w : World} {B : Nat} {v : Value} {L : List Nat} (h : NaOwn w B v L) (hL : 0 < L.length) : ∃ g c, v = .slice (some ⟨g, 0, none⟩) L.length c ∧ g < w.heap.size ∧ ∀ j, j < L.length → w.cell? ⟨g, j, none⟩ = some (.int .i64 ((L.getD j 0 : Nat) : Int)) := by
  rcases h.2 with ⟨_, h0⟩ | ⟨g, cap, cur, e, h1, h2, _⟩
  · omega
  · refine ⟨g, cap, e, (World.ownsRow.lt h g (by rw [e]; rfl)).2, fun j hj => ?_⟩
    have := World.ownsRow.cells h (g := g) (by rw [e]; rfl) j (.int .i64 ((L.getD j 0 : Nat) : Int)) (by rw [getD_at _ _ _ hj]; simp [natsV, hj])
    rwa [addr_add] at this
theorem na_slice {w : World} {B : Nat} {v : Value} {L : List Nat} (h : NaOwn w B v L) : ∃ a c, v = .slice a L.length c := by
  rcases h.2 with ⟨e, h0⟩ | ⟨g, cap, cur, e, _⟩
  · exact ⟨none, 0, by rw [e, h0]⟩
  · exact ⟨_, _, e⟩
theorem lk_cellsD {w : World} {B : Nat} {v : Value} {M : List Lk} (h : LkOwn w B v M) (hM : 0 < M.length) : ∃ g c, v = .slice (some ⟨g, 0, none⟩) M.length c ∧ g < w.heap.size ∧ ∀ j, j < M.length → w.cell? ⟨g, j * 2, none⟩ = some (.int .i64 ((M.getD j ⟨0, 0⟩).f : Int)) ∧ w.cell? ⟨g, j * 2 + 1, none⟩ = some (.int .i64 ((M.getD j ⟨0, 0⟩).t : Int)) := by
  obtain ⟨g, c, e, hg, hc⟩ := lk_cells h hM
  exact ⟨g, c, e, hg, fun j hj => by rw [getD_at _ _ _ hj]; exact hc j hj⟩
def wayT (N : List Nd) (t : Tp) : Nat → Nat → List Nat
  | 0, _ => []
  | k + 1, x => if rt t x = x then [] else par N t x :: wayT N t k (par N t x)
theorem way_tail (N : List Nd) (t : Tp) : ∀ (k x : Nat), wayF N t k x = x :: wayT N t k x
  | 0, _ => rfl
  | k + 1, x => by
    rw [wayF, wayT]
    split
    · rfl
    · rw [way_tail]
theorem natsV_snoc (L : List Nat) (x : Nat) : natsV (L ++ [x]) = natsV L ++ [.int .i64 (x : Int)] := by simp [natsV]
theorem info_int : (Try.prog.info? 3).map (fun i => (i.zero, i.size, i.bytes)) = some (some (.int .i64 0), 1, 8) := by kernel_rfl
theorem info_link : (Try.prog.info? 83).map (fun i => (i.zero, i.size, i.bytes)) = some (some (.agg #[.int .i64 0, .int .i64 0]), 2, 16) := by kernel_rfl
theorem one_int (x : Int) : ∀ u, u ∈ [Value.int .i64 x] → u.oneCell' = true := by
  intro u hu; simp at hu; subst hu; rfl
section
variable {w : World} {b lo : Nat} {aQ : Option Addr} {cQ s : Nat} {Q : List EdgeI} {y : List Int} {N : List Nd} {M : List Lk} {k : Int} {d : Bool} {vv : Vs}
theorem way_step {t : Tp} {rk : Nat → Nat} (F : For s N M t rk) {c : Nat} (hc : lab t c ≠ 0) (hr : rt t c ≠ c) : lab t (par N t c) ≠ 0 ∧ rk (par N t c) < rk c ∧ (ahd t c).f < s := by
  have h2 := F.two c
  by_cases h1 : lab t c = 1
  · obtain ⟨g1, _, g3, _, _, g6, _⟩ := F.evn c h1 hr
    exact ⟨by omega, g3, g6⟩
  · obtain ⟨⟨g1, _, _, g4, _, g6, _⟩, _⟩ := F.odd c (by omega)
    exact ⟨by omega, g4, g6⟩
set_option maxRecDepth 100000 in
set_option maxHeartbeats 2000000 in
theorem way_any (h : RunAt w b lo aQ cQ s Q y N M k d vv) (hlo : lo ≤ w.heap.size) (hU : Ups N) (hn : N.length ≤ 1000000) (hs : s ≤ N.length) {bt lt : Nat} {t : Tp} {vl va vr : Value} (hT : TpAt w bt lt t vl va vr) {rk : Nat → Nat} (F : For s N M t rk) (K x : Nat) (hx : lab t x ≠ 0) (hK : rk x ≤ K) (hKn : K ≤ 1000000) :
    Calls Try.prog 80 #[.pointer (some ⟨b, 0, none⟩), .pointer (some ⟨bt, 0, none⟩), .int .i64 (x : Int)] w fun u w' => (∃ d, u = .returned d ∧ NaOwn w' w.heap.size d (wayF N t K x)) ∧ Below w.heap.size w w' := by
  obtain ⟨i0, hi0, hz0, hz1, hz2⟩ := info_parts info_int
  have HTA := hide (fun w1 (hb : Below w.heap.size w w1) v hv => top_any (h.below hb hlo) hU hn v hv)
  have hxl := (F.tp x hx).1
  obtain ⟨ga, ca, ea, hga, hca⟩ := lk_cellsD hT.ahd (by rw [F.l2]; omega)
  obtain ⟨gr, cr, er, hgr, hcr⟩ := na_cells hT.rot (by rw [F.l3]; omega)
  have q1 := hT.box.cell 1 _ rfl
  have q2 := hT.box.cell 2 _ rfl
  have hbt := hT.box.lt
  rw [ea, F.l2] at q1
  rw [er, F.l3] at q2
  have HCA : Hid (∀ j, j < N.length → w.cell? ⟨ga, j * 2, none⟩ = some (.int .i64 ((ahd t j).f : Int))) := fun j hj => (hca j (by rw [F.l2]; exact hj)).1
  have HCR : Hid (∀ j, j < N.length → w.cell? ⟨gr, j, none⟩ = some (.int .i64 (rt t j : Int))) := fun j hj => hcr j (by rw [F.l3]; exact hj)
  have HF := hide F
  have HPT : Hid (∀ c, par N t c = top N (ahd t c).f) := fun c => rfl
  generalize hW : wayF N t K x = W
  have H0 : Hid (W = [x] ++ wayT N t K x) := by show _ = _; rw [← hW, way_tail]; rfl
  clear h hT hca hcr hU F ea er hW
  obtain ⟨n, hN⟩ : ∃ n, n = N.length := ⟨_, rfl⟩
  rw [← hN] at q1 q2 hn hs HCA HCR HTA hxl
  have HN := hide hN
  clear hN
  go_enter Try.func80, Try.ntmps80
  go_wp2_with fail
  have HO0 : Hid ((w.alloc (.cells #[.int .i64 (x : Int)] 3)).ownsRow w.heap.size 3 1 (.slice (some ⟨w.heap.size, 0, none⟩) 1 1) ([x] : List Nat).length (natsV [x])) :=
    ⟨rfl, .inr ⟨w.heap.size, 1, _, rfl, Nat.le_refl _, heap_alloc_new w _, Nat.le_refl _, by unfold maxLen; omega, rfl, rfl⟩⟩
  go_loopw [2, 7] (fun a2 a7 wr => ∃ (c : Nat) (L : List Nat) (kk : Nat), a2 = .int .i64 (c : Int) ∧ c < n ∧ lab t c ≠ 0 ∧ rk c ≤ kk ∧ Hid (W = L ++ wayT N t kk c) ∧ L.length + kk ≤ K + 1 ∧ Hid (wr.ownsRow w.heap.size 3 1 a7 L.length (natsV L)) ∧ Below w.heap.size w wr) (fun a2 _ _ => rk (intOf a2).toNat)
  case atStart => exact ⟨x, [x], K, rfl, hxl, hx, hK, unhide H0, by simp; omega, HO0, below_new _ _⟩
  case round =>
    obtain ⟨c, L, kk, rfl, hcn, hcl, hck, HW, hLk, HO, hb⟩ := hrel
    have hc0 : (0 : Int) ≤ (c : Int) := by omega
    have hc1 : (c : Int) < (n : Int) := by omega
    have hzb := hb.size
    have p1 : wr.cell? ⟨bt, 1, none⟩ = some (.slice (some ⟨ga, 0, none⟩) n ca) := (hb.cell (p := ⟨bt, 1, none⟩) hbt).trans q1
    have p2 : wr.cell? ⟨bt, 2, none⟩ = some (.slice (some ⟨gr, 0, none⟩) n cr) := (hb.cell (p := ⟨bt, 2, none⟩) hbt).trans q2
    have pr : wr.cell? ⟨gr, c, none⟩ = some (.int .i64 (rt t c : Int)) := (hb.cell (p := ⟨gr, c, none⟩) hgr).trans (unhide HCR c hcn)
    have pa : wr.cell? ⟨ga, c * 2, none⟩ = some (.int .i64 ((ahd t c).f : Int)) := (hb.cell (p := ⟨ga, c * 2, none⟩) hga).trans (unhide HCA c hcn)
    by_cases hr : rt t c = c
    · have hWL : W = L := by
        rw [unhide HW]
        cases kk with
        | zero => rw [wayT, List.append_nil]
        | succ kk => rw [wayT, if_pos hr, List.append_nil]
      have HO2 : Hid (NaOwn wr w.heap.size u7 W) := by rw [hWL]; exact unhide HO
      rw [hr] at pr
      have hq : ((c : Int) != (c : Int)) = false := by simp
      clear hWL
      go_wp2
      go_ret
      exact ⟨⟨_, rfl, unhide HO2⟩, hb⟩
    · obtain ⟨g1, g2, g3⟩ := way_step (unhide HF) hcl hr
      have hq : ((rt t c : Int) != (c : Int)) = true := by simp; omega
      obtain ⟨kk', rfl⟩ : ∃ kk', kk = kk' + 1 := ⟨kk - 1, by omega⟩
      have HW2 : Hid (W = (L ++ [par N t c]) ++ wayT N t kk' (par N t c)) := by show _ = _; rw [unhide HW, wayT, if_neg hr, List.append_assoc]; rfl
      have TC := hide (unhide HTA wr hb (ahd t c).f (by omega))
      have hpl : par N t c < n := by have := (unhide HF).tp _ g1; have := unhide HN; unfold isTop at *; omega
      have hpe := unhide HPT c
      rw [← hpe] at TC
      have hmeas : rk (par N t c) < rk c := g2
      have hk2 : rk (par N t c) ≤ kk' := by omega
      generalize par N t c = pc at HW2 TC hpl g1 hmeas hk2
      generalize rt t c = rc at pr hq
      generalize (ahd t c).f = af at pa TC g3
      clear hr hpe g2
      go_wp2_with fail
      refine (unhide TC).mono ?_
      rintro u w5 ⟨rfl, rfl⟩
      have hown := unhide HO
      go_wp2_with (at_builtin; refine wpList_append_own _ rfl _ _ 27 rfl w.heap.size 3 i0 (.int .i64 0) 1 8 Try.underlying27 hi0 hz0 hz1 hz2 rfl (by decide) _ _ _ rfl (hown.alloc _) ⟨w5.heap.size, 0, none⟩ 1 1 [.int .i64 (pc : Int)] rfl rfl (cell_one_new _ _ _) (one_int _) ?c3 ?c4 ?c5 ?_)
      case c3 => unfold maxLen; omega
      case c4 => omega
      case c5 => simp; omega
      intro v' w7 hown' hgrow _
      have hb7 := below_append hb (Nat.le_refl _) hown hgrow
      have HO7 : Hid (w7.ownsRow w.heap.size 3 1 v' (L ++ [pc]).length (natsV (L ++ [pc]))) := by
        show World.ownsRow _ _ _ _ _ _ _
        rw [natsV_snoc, List.length_append]
        exact hown'
      clear hown hown' hgrow p1 p2 pr pa
      go_wp2_with fail
      refine ⟨⟨pc, L ++ [pc], kk', rfl, hpl, g1, hk2, HW2, by simp; omega, HO7, hb7⟩, ?_⟩
      simp only [intOf]
      exact hmeas
theorem RunAt.setM {wr : World} {M' : List Lk} {v' : Value} (h : RunAt w b lo aQ cQ s Q y N M k d vv) (hlo : lo ≤ w.heap.size) (hb : Below w.heap.size w wr) (hv : LkOwn wr w.heap.size v' M') : RunAt (wr.setCell ⟨b, 4, none⟩ v') b lo aQ cQ s Q y N M' k d { vv with m := v' } ∧ Kept (fun i => i = b) w (wr.setCell ⟨b, 4, none⟩ v') := by
  have h1 := h.below hb hlo
  have kk : Kept (fun i => i = b) wr (wr.setCell ⟨b, 4, none⟩ v') := Kept.set _ _ _ _ rfl
  have al : ∀ e : TypeId, (78 : Nat) ≠ e → ∀ i, i = b → Alien wr i e := fun e he i hi => by subst hi; exact h1.box.alien he
  have t1 : (78 : Nat) ≠ 3 ∧ (78 : Nat) ≠ 102 ∧ (78 : Nat) ≠ 83 := by decide
  refine ⟨⟨h1.box.set 4 v', h1.edges.below (kk.below (B := lo) (Nat.le_trans hlo hb.size) (fun i hi => by have := h.blo; omega)) (Nat.le_refl _), kk.own_alien h1.ys (al _ t1.1), kk.own_alien h1.ns (al _ t1.2.1), own_lower hlo (kk.own_alien hv (al _ t1.2.2)), h1.rl, h1.ll, fun j h2 h3 => kk.own_alien (h1.rings j h2 h3) (al _ t1.1), fun j h2 h3 => kk.own_alien (h1.lnks j h2 h3) (al _ t1.2.2), h1.d1, fun u hu g hg he => ?_, h1.blo⟩, (Kept.of_below hb).trans kk⟩
  · obtain ⟨j, hj, rfl⟩ := List.getElem_of_mem hu
    have a1 := (World.ownsRow.lt (h.lnks j (by rw [← h.ll]; exact hj) hj) g hg).2
    have a2 := (World.ownsRow.lt hv g he).1
    omega
theorem without_snoc (N : List Nd) (M : List Lk) (p j : Nat) (h : j < M.length) : without N (M.take (j + 1)) p = without N (M.take j) p ++ (if (top N M[j].f != p && top N M[j].t != p) = true then [M[j]] else []) := by
  unfold without
  rw [List.take_succ_eq_append_getElem h, List.filter_append]
  congr 1
  rw [List.filter_cons]
  split <;> simp
set_option maxRecDepth 100000 in
set_option maxHeartbeats 4000000 in
theorem without_any (h : RunAt w b lo aQ cQ s Q y N M k d vv) (hlo : lo ≤ w.heap.size) (hU : Ups N) (hn : N.length ≤ 1000000) (hM : M.length ≤ 1000000) (hE : ∀ v ∈ ends M, v < N.length) (p : Nat) :
    Calls Try.prog 82 #[.pointer (some ⟨b, 0, none⟩), .int .i64 (p : Int)] w fun u w' => u = .returned (.tuple #[]) ∧ (∃ v', RunAt w' b lo aQ cQ s Q y N (without N M p) k d { vv with m := v' } ∧ (∀ g, v'.ownBlock = some g → w.heap.size ≤ g)) ∧ Kept (fun i => i = b) w w' := by
  obtain ⟨i0, hi0, hz0, hz1, hz2⟩ := info_parts info_link
  have HTA := hide (fun w1 (hb : Below w.heap.size w w1) v hv => top_any (h.below hb hlo) hU hn v hv)
  have HSM := hide (fun wr M' v' hb hv => h.setM (wr := wr) (M' := M') (v' := v') hlo hb hv)
  have q4 := h.box.cell 4 _ rfl
  have hblt := h.box.lt
  have HFZ : Hid (∀ wr, Below w.heap.size w wr → wr.frozen? ⟨b, 4, none⟩ = false) := fun wr hb => (h.box.below hb).froz 4
  obtain ⟨aM, cM, eM⟩ := lk_slice h.ms
  rw [eM] at q4
  have HCM : Hid (∀ j (hj : j < M.length), ∃ g, aM = some ⟨g, 0, none⟩ ∧ g < w.heap.size ∧ w.cell? ⟨g, j * 2, none⟩ = some (.int .i64 (M[j].f : Int)) ∧ w.cell? ⟨g, j * 2 + 1, none⟩ = some (.int .i64 (M[j].t : Int))) := fun j hj => by
    obtain ⟨g, c, e, hg, hc⟩ := lk_cells h.ms (by omega)
    rw [eM] at e
    simp at e
    exact ⟨g, e.1, hg, hc j hj⟩
  have HE := hide hE
  have HST : Hid (∀ j (h : j < M.length), without N (M.take (j + 1)) p = without N (M.take j) p ++ (if (top N M[j].f != p && top N M[j].t != p) = true then [M[j]] else [])) := fun j hj => without_snoc N M p j hj
  have HALL : Hid (without N (M.take M.length) p = without N M p) := by show _ = _; rw [List.take_length]
  have HLEN : Hid (∀ j, (without N (M.take j) p).length ≤ j) := fun j => by
    unfold without
    have := List.length_filter_le (fun x : Lk => (top N x.f != p) && (top N x.t != p)) (M.take j)
    rw [List.length_take] at this
    omega
  clear h hU hE eM
  obtain ⟨n, hN⟩ : ∃ n, n = M.length := ⟨_, rfl⟩
  rw [← hN] at q4 hM HALL
  have HN := hide hN
  clear hN
  generalize hWM : without N M p = WM at HALL
  clear hWM
  go_enter Try.func82, Try.ntmps82
  go_wp2_with fail
  have HO0 : Hid ((w.alloc (.cells #[] 83)).ownsRow w.heap.size 83 2 (.slice (some ⟨w.heap.size, 0, none⟩) 0 0) (without N (M.take 0) p).length (lksV (without N (M.take 0) p))) := World.ownsRow_made w #[] 0 (by omega) (Nat.zero_le _) rfl
  go_loopw [4, 5] (fun a4 a5 wr => ∃ j : Nat, a5 = .int .i64 (j : Int) ∧ j ≤ n ∧ Hid (wr.ownsRow w.heap.size 83 2 a4 (without N (M.take j) p).length (lksV (without N (M.take j) p))) ∧ Below w.heap.size w wr) (fun _ a5 _ => n - (intOf a5).toNat)
  case atStart => exact ⟨0, rfl, Nat.zero_le _, HO0, below_new _ _⟩
  case round =>
    obtain ⟨j, rfl, hj, HO, hb⟩ := hrel
    have hzb := hb.size
    have p4 : wr.cell? ⟨b, 4, none⟩ = some (.slice aM n cM) := (hb.cell (p := ⟨b, 4, none⟩) hblt).trans q4
    by_cases hlt : j < n
    · have hjM : j < M.length := by have := unhide HN; omega
      obtain ⟨g, rfl, hg, d0, d1⟩ := unhide HCM j hjM
      have hx0 : (0 : Int) ≤ (j : Int) := by omega
      have hx1 : (j : Int) < (n : Int) := by omega
      rw [← hb.cell (p := ⟨g, j * 2, none⟩) hg] at d0
      rw [← hb.cell (p := ⟨g, j * 2 + 1, none⟩) hg] at d1
      have HS2 := hide (unhide HST j hjM)
      have vf : M[j].f < N.length := unhide HE _ (mem_ends.2 ⟨_, List.getElem_mem hjM, .inl rfl⟩)
      have vt : M[j].t < N.length := unhide HE _ (mem_ends.2 ⟨_, List.getElem_mem hjM, .inr rfl⟩)
      generalize M[j] = x at d0 d1 HS2 vf vt
      obtain ⟨xf, xt⟩ := x
      simp only at d0 d1 HS2 vf vt
      have TF := hide (unhide HTA wr hb xf vf)
      have TT := hide (unhide HTA wr hb xt vt)
      generalize top N xf = tf at TF HS2
      generalize top N xt = tt at TT HS2
      have hln := unhide HLEN j
      go_wp2_with fail
      refine (unhide TF).mono ?_
      rintro u w5 ⟨rfl, rfl⟩
      by_cases hf : tf = p
      · subst hf
        have hq : ((tf : Int) != (tf : Int)) = false := by simp
        have e2 : without N (M.take (j + 1)) tf = without N (M.take j) tf := by rw [unhide HS2]; simp
        have HO2 : Hid (w5.ownsRow w.heap.size 83 2 u4 (without N (M.take (j + 1)) tf).length (lksV (without N (M.take (j + 1)) tf))) := by rw [e2]; exact HO
        clear e2 d0 d1
        go_wp2
        go_roundw
        case rel => exact ⟨j + 1, by go_num, by omega, HO2, hb⟩
        case measure => simp [intOf]; omega
      · have hq : ((tf : Int) != (p : Int)) = true := by simp; omega
        go_wp2_with fail
        refine (unhide TT).mono ?_
        rintro u w6 ⟨rfl, rfl⟩
        by_cases htt : tt = p
        · subst htt
          have hq2 : ((tt : Int) != (tt : Int)) = false := by simp
          have e2 : without N (M.take (j + 1)) tt = without N (M.take j) tt := by rw [unhide HS2]; simp
          have HO2 : Hid (w6.ownsRow w.heap.size 83 2 u4 (without N (M.take (j + 1)) tt).length (lksV (without N (M.take (j + 1)) tt))) := by rw [e2]; exact HO
          clear e2 d0 d1
          go_wp2
          go_roundw
          case rel => exact ⟨j + 1, by go_num, by omega, HO2, hb⟩
          case measure => simp [intOf]; omega
        · have hq2 : ((tt : Int) != (p : Int)) = true := by simp; omega
          have e2 : without N (M.take (j + 1)) p = without N (M.take j) p ++ [⟨xf, xt⟩] := by rw [unhide HS2]; simp [hf, htt]
          have HE2 := hide e2
          have hown := unhide HO
          generalize without N (M.take j) p = L at hown HE2 hln
          have hgl : g < w6.heap.size := by omega
          clear e2
          go_wp2_with (at_builtin; refine wpList_append_own _ rfl _ _ 76 rfl w.heap.size 83 i0 (.agg #[.int .i64 0, .int .i64 0]) 2 16 Try.underlying76 hi0 hz0 hz1 hz2 rfl (by decide) _ L.length _ rfl (hown.alloc _) ⟨w6.heap.size, 0, none⟩ 1 1 [.int .i64 (xf : Int), .int .i64 (xt : Int)] rfl rfl (World.news_of_block (heap_alloc_new w6 _)) (by intro u hu; simp at hu; rcases hu with rfl | rfl <;> rfl) ?c1 ?c2 ?c3 ?_)
          case c1 => unfold maxLen; omega
          case c2 => omega
          case c3 => simp; omega
          intro v' w7 hown' hgrow _
          have hb7 := below_append hb (Nat.le_refl _) hown hgrow
          have HO7 : Hid (w7.ownsRow w.heap.size 83 2 v' (without N (M.take (j + 1)) p).length (lksV (without N (M.take (j + 1)) p))) := by
            show World.ownsRow _ _ _ _ _ _ _
            rw [unhide HE2, lksV_snoc, List.length_append]
            exact hown'
          clear hown hown' hgrow p4 d0 d1
          go_wp2_with fail
          exact ⟨⟨j + 1, by go_num, by omega, HO7, hb7⟩, by simp [intOf]; omega⟩
    · obtain rfl : j = n := by omega
      have hx1 : ¬ (j : Int) < (j : Int) := by omega
      have hfz := unhide HFZ wr hb
      have HO2 : Hid (LkOwn wr w.heap.size u4 WM) := by
        show World.ownsRow _ _ _ _ _ _ _
        have := unhide HO
        rw [unhide HALL] at this
        exact this
      obtain ⟨a4, c4, e4⟩ := lk_slice (unhide HO2)
      subst e4
      obtain ⟨r1, r2⟩ := unhide HSM wr WM _ hb (unhide HO2)
      have HR1 := hide r1
      have HR2 := hide r2
      have HFR : Hid (∀ g, (Value.slice a4 WM.length c4).ownBlock = some g → w.heap.size ≤ g) := fun g hg => (World.ownsRow.lt (unhide HO2) g hg).1
      clear r1 r2
      go_wp2
      go_end0
      exact ⟨rfl, ⟨_, unhide HR1, unhide HFR⟩, unhide HR2⟩
end
end Sv
end Go.Proofs.Ytkjclkelnheheaa
namespace Go.Proofs.Ytkjclkelnheheaa
namespace Sv
open Gr
def good (s : Nat) (y : List Int) (N : List Nd) (t : Tp) (e : EdgeI) : Bool :=
  !(top N e.A.toNat == top N e.B.toNat || (slack s y N e != 0 || ((lab t (top N e.A.toNat) != 1 && lab t (top N e.B.toNat) != 1) || (lab t (top N e.A.toNat) == 2 || lab t (top N e.B.toNat) == 2))))
def both (N : List Nd) (t : Tp) (e : EdgeI) : Bool := lab t (top N e.A.toNat) == 1 && lab t (top N e.B.toNat) == 1
def pick (s : Nat) (y : List Int) (N : List Nd) (t : Tp) : List EdgeI → Nat → Option (Nat × EdgeI)
  | [], _ => none
  | e :: r, i => if good s y N t e = true then some (i, e) else pick s y N t r (i + 1)
def mateD (N : List Nd) (M : List Lk) (p : Nat) : Lk := (mateOf N M p).getD ⟨0, 0⟩
def growE (N : List Nd) (M : List Lk) (t : Tp) (e : EdgeI) : Tp :=
  if lab t (top N e.A.toNat) = 1 then grow t (top N e.A.toNat) (top N e.B.toNat) (top N (mateD N M (top N e.B.toNat)).t) ⟨e.A.toNat, e.B.toNat⟩ (mateD N M (top N e.B.toNat))
  else grow t (top N e.B.toNat) (top N e.A.toNat) (top N (mateD N M (top N e.A.toNat)).t) ⟨e.B.toNat, e.A.toNat⟩ (mateD N M (top N e.A.toNat))
def labF (s : Nat) (Q : List EdgeI) (y : List Int) (N : List Nd) (M : List Lk) : Nat → Tp → Tp × Option (Nat × EdgeI)
  | 0, t => (t, none)
  | f + 1, t => match pick s y N t Q 0 with
    | none => (t, none)
    | some (i, e) => if both N t e = true then (t, some (i, e)) else labF s Q y N M f (growE N M t e)
theorem pick_spec {s : Nat} {y : List Int} {N : List Nd} {t : Tp} {i : Nat} {e : EdgeI} : ∀ {Q : List EdgeI} {k : Nat}, pick s y N t Q k = some (i, e) → k ≤ i ∧ (∃ h : i - k < Q.length, Q[i - k] = e) ∧ good s y N t e = true
  | [], k, h => by simp [pick] at h
  | x :: r, k, h => by
    rw [pick] at h
    split at h
    · rename_i hg
      simp at h
      obtain ⟨rfl, rfl⟩ := h
      exact ⟨Nat.le_refl _, ⟨by simp, by simp⟩, hg⟩
    · obtain ⟨h1, ⟨h2, h3⟩, h4⟩ := pick_spec h
      refine ⟨by omega, ⟨by simp; omega, ?_⟩, h4⟩
      have e1 : i - k = (i - (k + 1)) + 1 := by omega
      simp only [e1, List.getElem_cons_succ]
      exact h3
theorem nz_le (t : Tp) : nz t ≤ t.label.length := List.countP_le_length
section
variable {s : Nat} {N : List Nd} {M : List Lk} {t : Tp} {rk : Nat → Nat} {y : List Int} {e : EdgeI}
theorem top_is {v : Nat} (I : Inv s N M) (hv : v < s) : isTop N (top N v) := by
  have hge := I.ge
  have h1 := top_spec I.ups v (by omega)
  exact ⟨h1.1, I.alive v (by omega) (I.ver v hv), h1.2.1⟩
theorem bare_mate (F : For s N M t rk) {p : Nat} (hp : isTop N p) (h0 : lab t p = 0) : ∃ m, mateOf N M p = some m := by
  cases hm : mateOf N M p with
  | some m => exact ⟨m, rfl⟩
  | none => have := F.fre p hp hm; omega
theorem growE_for (I : Inv s N M) (F : For s N M t rk) (hA : e.A.toNat < s) (hB : e.B.toNat < s) (hg : good s y N t e = true) (hb : both N t e = false) : (∃ rk', For s N M (growE N M t e) rk') ∧ nz (growE N M t e) = nz t + 2 := by
  unfold good at hg
  unfold both at hb
  simp only [Bool.not_eq_true', Bool.or_eq_false_iff, Bool.and_eq_false_iff, beq_eq_false_iff_ne, bne_eq_false_iff_eq, ne_eq] at hg hb
  obtain ⟨_, _, h1, h2, h3⟩ := hg
  have ta := top_is I hA
  have tb := top_is I hB
  have za := F.two (top N e.A.toNat)
  have zb := F.two (top N e.B.toNat)
  unfold growE
  by_cases la : lab t (top N e.A.toNat) = 1
  · rw [if_pos la]
    have lb : lab t (top N e.B.toNat) = 0 := by
      rcases hb with hb | hb
      · exact absurd la hb
      · omega
    obtain ⟨m, hm⟩ := bare_mate F tb lb
    have e1 : mateD N M (top N e.B.toNat) = m := by unfold mateD; rw [hm]; rfl
    rw [e1]
    have g := grow_for (link := ⟨e.A.toNat, e.B.toNat⟩) I F la lb tb rfl rfl hA hB hm rfl
    exact ⟨⟨_, g.1⟩, g.2.1⟩
  · rw [if_neg la]
    have lb : lab t (top N e.B.toNat) = 1 := by
      rcases h1 with h1 | h1
      · exact absurd h1 la
      · exact h1
    have la0 : lab t (top N e.A.toNat) = 0 := by omega
    obtain ⟨m, hm⟩ := bare_mate F ta la0
    have e1 : mateD N M (top N e.A.toNat) = m := by unfold mateD; rw [hm]; rfl
    rw [e1]
    have g := grow_for (link := ⟨e.B.toNat, e.A.toNat⟩) I F lb la0 ta rfl rfl hB hA hm rfl
    exact ⟨⟨_, g.1⟩, g.2.1⟩
theorem labF_spec {Q : List EdgeI} (I : Inv s N M) (hQ : ∀ e ∈ Q, e.A.toNat < s ∧ e.B.toNat < s) : ∀ (f : Nat) (t : Tp) (rk : Nat → Nat), For s N M t rk → N.length < nz t + 2 * f →
    (∃ rk', For s N M (labF s Q y N M f t).1 rk') ∧ ((labF s Q y N M f t).2 = none → pick s y N (labF s Q y N M f t).1 Q 0 = none) ∧ ∀ i e, (labF s Q y N M f t).2 = some (i, e) → (∃ h : i < Q.length, Q[i] = e) ∧ good s y N (labF s Q y N M f t).1 e = true ∧ both N (labF s Q y N M f t).1 e = true := by
  intro f
  induction f with
  | zero =>
    intro t rk F hf
    have := nz_le t
    rw [F.l1] at this
    omega
  | succ f ih =>
    intro t rk F hf
    rw [labF]
    cases hp : pick s y N t Q 0 with
    | none => exact ⟨⟨rk, F⟩, fun _ => hp, fun i e h => by simp at h⟩
    | some x =>
      obtain ⟨i, e⟩ := x
      obtain ⟨_, ⟨h2, h3⟩, h4⟩ := pick_spec hp
      simp only
      by_cases hb : both N t e = true
      · rw [if_pos hb]
        refine ⟨⟨rk, F⟩, fun h => by simp at h, fun i' e' h => ?_⟩
        simp at h
        obtain ⟨rfl, rfl⟩ := h
        exact ⟨⟨h2, h3⟩, h4, hb⟩
      · rw [if_neg hb]
        have he : e ∈ Q := by rw [← h3]; exact List.getElem_mem _
        obtain ⟨⟨rk', F'⟩, hz⟩ := growE_for (y := y) I F (hQ e he).1 (hQ e he).2 h4 (by simpa using hb)
        exact ih _ rk' F' (by omega)
def labels (s : Nat) (Q : List EdgeI) (y : List Int) (N : List Nd) (M : List Lk) : Tp × Option (Nat × EdgeI) := labF s Q y N M (N.length + 1) (label0 N M)
theorem labels_spec {Q : List EdgeI} (I : Inv s N M) (hQ : ∀ e ∈ Q, e.A.toNat < s ∧ e.B.toNat < s) :
    (∃ rk', For s N M (labels s Q y N M).1 rk') ∧ ((labels s Q y N M).2 = none → pick s y N (labels s Q y N M).1 Q 0 = none) ∧ ∀ i e, (labels s Q y N M).2 = some (i, e) → (∃ h : i < Q.length, Q[i] = e) ∧ good s y N (labels s Q y N M).1 e = true ∧ both N (labels s Q y N M).1 e = true :=
  labF_spec I hQ _ _ _ (for0 s N M) (by omega)
end
end Sv
end Go.Proofs.Ytkjclkelnheheaa
namespace Go.Proofs.Ytkjclkelnheheaa
namespace Sv
open Go.RowKit Gr
def stepY (N : List Nd) (t : Tp) (y : List Int) : List Nat → Int → Int
  | [], a => a
  | v :: r, a => stepY N t y r (if (lab t (top N v) == 1) = true then least a (y.getD v 0) else a)
def stepE1 (s : Nat) (y : List Int) (N : List Nd) (t : Tp) (e : EdgeI) (d : Int) : Int :=
  if (top N e.A.toNat == top N e.B.toNat || (lab t (top N e.A.toNat) == 2 || lab t (top N e.B.toNat) == 2)) = true then d
  else if (lab t (top N e.A.toNat) == 1 && lab t (top N e.B.toNat) == 1) = true then least d (wrap64 ((slack s y N e).tdiv 2))
  else if (lab t (top N e.A.toNat) == 1 || lab t (top N e.B.toNat) == 1) = true then least d (slack s y N e) else d
def stepE (s : Nat) (y : List Int) (N : List Nd) (t : Tp) : List EdgeI → Int → Int
  | [], d => d
  | e :: r, d => stepE s y N t r (stepE1 s y N t e d)
def stepR (N : List Nd) (t : Tp) : List Nat → Int → Int
  | [], d => d
  | i :: r, d => stepR N t r (if ((!(nd N i).gone && decide (upA N i < 0)) && lab t i == 2) = true then least d (wrap64 ((nd N i).z.tdiv 2)) else d)
def stepY0 (s : Nat) (y : List Int) (N : List Nd) (t : Tp) : Int := stepY N t y (List.range' 0 (s - 0)) (-1)
def stepD (s : Nat) (Q : List EdgeI) (y : List Int) (N : List Nd) (t : Tp) : Int := if stepY0 s y N t < 0 then -1 else stepR N t (List.range' s (N.length - s)) (stepE s y N t Q (stepY0 s y N t))
def stepV (s : Nat) (y : List Int) (N : List Nd) (t : Tp) : Int := if stepY0 s y N t < 0 then -1 else stepY0 s y N t
theorem nat_beq (a b : Nat) : ((a : Int) == (b : Int)) = (a == b) := by
  rw [Bool.eq_iff_iff, beq_iff_eq, beq_iff_eq]
  omega
theorem edges_step (s : Nat) (y : List Int) (N : List Nd) (t : Tp) (Q : List EdgeI) (j : Nat) (d : Int) (h : j < Q.length) : stepE s y N t (Q.drop j) d = stepE s y N t (Q.drop (j + 1)) (stepE1 s y N t Q[j] d) := by
  rw [drop_cons Q j h]; rfl
section
variable {w : World} {b lo : Nat} {aQ : Option Addr} {cQ s : Nat} {Q : List EdgeI} {y : List Int} {N : List Nd} {M : List Lk} {k : Int} {d : Bool} {vv : Vs}
set_option maxRecDepth 100000 in
set_option maxHeartbeats 8000000 in
theorem step_any (h : RunAt w b lo aQ cQ s Q y N M k d vv) (hlo : lo ≤ w.heap.size) (hU : Ups N) (hn : N.length ≤ 1000000) (hs : s ≤ N.length) (hs9 : s ≤ 1000000) (hy : y.length = s) (hQn : Q.length ≤ 1000000) (hQ : ∀ e ∈ Q, (0 ≤ e.A ∧ e.A < (s : Int)) ∧ 0 ≤ e.B ∧ e.B < (s : Int)) {bt lt : Nat} {t : Tp} {vl va vr : Value} (hT : TpAt w bt lt t vl va vr) (hl : t.label.length = N.length) :
    Calls Try.prog 78 #[.pointer (some ⟨b, 0, none⟩), .pointer (some ⟨bt, 0, none⟩)] w fun u w' => u = .returned (.tuple #[.int .i64 (stepD s Q y N t), .int .i64 (stepV s y N t)]) ∧ Below w.heap.size w w' := by
  have HTA := hide (fun w1 (hb : Below w.heap.size w w1) v hv => top_any (h.below hb hlo) hU hn v hv)
  have HSA := hide (fun w1 (hb : Below w.heap.size w w1) e hA hB => slack_any (h.below hb hlo) (Nat.le_trans hlo hb.size) hU hn hs hy e hA hB)
  have HIT := hide (fun w1 (hb : Below w.heap.size w w1) v hv => isTop_any (h.below hb hlo) hn v hv)
  have HTL : Hid (∀ v, v < N.length → top N v < N.length) := fun v hv => (top_spec hU v hv).1
  have hblt := h.box.lt
  have hbt := hT.box.lt
  have q0 := h.box.cell 0 _ rfl
  have q1 := h.box.cell 1 _ rfl
  have q2' := h.box.cell 2 _ rfl
  have q3' := h.box.cell 3 _ rfl
  have t0' := hT.box.cell 0 _ rfl
  obtain ⟨al, cl, el⟩ := na_slice hT.lab
  rw [el, hl] at t0'
  have HLC : Hid (∀ j, j < N.length → ∃ g, al = some ⟨g, 0, none⟩ ∧ g < w.heap.size ∧ w.cell? ⟨g, j, none⟩ = some (.int .i64 (lab t j : Int))) := fun j hj => by
    obtain ⟨g, c, e, hg, hc⟩ := na_cells hT.lab (by omega)
    rw [el] at e
    simp at e
    exact ⟨g, e.1, hg, hc j (by omega)⟩
  obtain ⟨ay, cy, ey⟩ : ∃ a c, vv.y = .slice a s c := by
    rcases h.ys.2 with ⟨e, h0⟩ | ⟨g, cap, cur, e, _⟩
    · exact ⟨none, 0, by rw [e, ← hy, h0]⟩
    · exact ⟨_, _, by rw [e, hy]⟩
  rw [ey] at q2'
  have HYC : Hid (∀ j, j < s → ∃ g, ay = some ⟨g, 0, none⟩ ∧ g < w.heap.size ∧ w.cell? ⟨g, j, none⟩ = some (.int .i64 (y.getD j 0))) := fun j hj => by
    obtain ⟨g, c, e, hg, _, hc⟩ := h.ycells (by omega)
    rw [ey] at e
    simp at e
    exact ⟨g, e.1, hg, hc j (by omega)⟩
  obtain ⟨an, cn, en⟩ : ∃ a c, vv.n = .slice a N.length c := by
    rcases h.ns.2 with ⟨e, h0⟩ | ⟨g, cap, cur, e, _⟩
    · exact ⟨none, 0, by rw [e, h0]⟩
    · exact ⟨_, _, e⟩
  rw [en] at q3'
  have HNC : Hid (∀ j, j < N.length → ∃ g, an = some ⟨g, 0, none⟩ ∧ g < w.heap.size ∧ w.cell? ⟨g, j * 6 + 3, none⟩ = some (.int .i64 (nd N j).z)) := fun j hj => by
    obtain ⟨g, c, e, _, hg, _, hc⟩ := h.node (by omega)
    rw [en] at e
    simp at e
    exact ⟨g, e.1, hg, (hc j hj).2.2.2.1⟩
  have HEC := hide h.edges.2
  have HQ := hide hQ
  have HY0 : Hid (stepY0 s y N t = stepY N t y (List.range' 0 (s - 0)) (-1)) := rfl
  have HSY : Hid (∀ j a, j < s → stepY N t y (List.range' j (s - j)) a = stepY N t y (List.range' (j + 1) (s - (j + 1))) (if (lab t (top N j) == 1) = true then least a (y.getD j 0) else a)) := fun j a hj => by rw [range_step j _ hj]; rfl
  have HEY : Hid (∀ a, stepY N t y (List.range' s (s - s)) a = a) := fun a => by rw [Nat.sub_self]; rfl
  have HD : Hid (stepD s Q y N t = if stepY0 s y N t < 0 then -1 else stepR N t (List.range' s (N.length - s)) (stepE s y N t (Q.drop 0) (stepY0 s y N t))) := rfl
  have HV : Hid (stepV s y N t = if stepY0 s y N t < 0 then -1 else stepY0 s y N t) := rfl
  have HSE : Hid (∀ j d (h : j < Q.length), stepE s y N t (Q.drop j) d = stepE s y N t (Q.drop (j + 1)) (stepE1 s y N t Q[j] d)) := fun j d h => edges_step s y N t Q j d h
  have HEE : Hid (∀ d, stepE s y N t (Q.drop Q.length) d = d) := fun d => by rw [List.drop_length]; rfl
  have HSR : Hid (∀ j d, j < N.length → stepR N t (List.range' j (N.length - j)) d = stepR N t (List.range' (j + 1) (N.length - (j + 1))) (if ((!(nd N j).gone && decide (upA N j < 0)) && lab t j == 2) = true then least d (wrap64 ((nd N j).z.tdiv 2)) else d)) := fun j d hj => by rw [range_step j _ hj]; rfl
  have HER : Hid (∀ d, stepR N t (List.range' N.length (N.length - N.length)) d = d) := fun d => by rw [Nat.sub_self]; rfl
  generalize stepD s Q y N t = TD at HD
  generalize stepV s y N t = TV at HV
  generalize stepY0 s y N t = Y0 at HY0 HD HV
  clear h hT hU el ey en hQ hy hl
  obtain ⟨n, hN⟩ : ∃ n, n = N.length := ⟨_, rfl⟩
  rw [← hN] at q3' t0' hn hs HTA HIT HTL HLC HNC HD HSR HER
  clear hN
  obtain ⟨qn, hqn⟩ : ∃ qn, qn = Q.length := ⟨_, rfl⟩
  rw [← hqn] at q1 hQn HEE
  have HQN := hide hqn
  clear hqn
  go_enter Try.func78, Try.ntmps78
  go_wp2_with fail
  go_loopw [7, 8] (fun a7 a8 wr => ∃ (j : Nat) (a : Int), a8 = .int .i64 (j : Int) ∧ a7 = .int .i64 a ∧ j ≤ s ∧ Hid (Y0 = stepY N t y (List.range' j (s - j)) a) ∧ Below w.heap.size w wr) (fun _ a8 _ => s - (intOf a8).toNat)
  case atStart => exact ⟨0, -1, rfl, rfl, Nat.zero_le _, HY0, Below.refl _ _⟩
  case round =>
    obtain ⟨j, a, rfl, rfl, hj, HA, hb⟩ := hrel
    have zb := hb.size
    have p0 : wr.cell? ⟨b, 0, none⟩ = some (.int .i64 (s : Int)) := (hb.cell (p := ⟨b, 0, none⟩) hblt).trans q0
    by_cases hlt : j < s
    · have hjn : j < n := by omega
      have hj0 : (0 : Int) ≤ (j : Int) := by omega
      have hj1 : (j : Int) < (s : Int) := by omega
      have TJ := hide (fun w1 hb1 => unhide HTA w1 hb1 j hjn)
      have htl := unhide HTL j hjn
      have HA2 := hide ((unhide HA).trans (unhide HSY j a hlt))
      generalize top N j = tj at TJ htl HA2
      obtain ⟨gl, rfl, hgl, cl0⟩ := unhide HLC tj htl
      obtain ⟨gy, rfl, hgy, cy0⟩ := unhide HYC j hlt
      generalize y.getD j 0 = yj at cy0 HA2
      have ht0 : (0 : Int) ≤ (tj : Int) := by omega
      have ht1 : (tj : Int) < (n : Int) := by omega
      have k0 : ∀ d : Grown wr.heap.size wr, d.w.cell? ⟨bt, 0, none⟩ = some (.slice (some ⟨gl, 0, none⟩) n cl) := fun d => d.cell (by omega) ((hb.cell (p := ⟨bt, 0, none⟩) hbt).trans t0')
      have k1 : ∀ d : Grown wr.heap.size wr, d.w.cell? ⟨gl, tj, none⟩ = some (.int .i64 (lab t tj : Int)) := fun d => d.cell (by omega) ((hb.cell (p := ⟨gl, tj, none⟩) hgl).trans cl0)
      have hlq : ((lab t tj : Int) == 1) = (lab t tj == 1) := nat_beq (lab t tj) 1
      generalize lab t tj = lj at k1 HA2 hlq
      go_wp2_with fail
      refine wp_region_grown wr.heap.size (by kernel_rfl) (by kernel_rfl) ?_
      repeat (go_big_quiet_step (first
        | (go_at_call 73; exact Calls.grown_same (unhide TJ _ (hb.trans (Below.mono (Grown.below _) hb.size))))))
      refine wpQuiet_nil ?_
      rintro w5 ⟨d5, rfl⟩
      obtain ⟨W5, hb5⟩ := d5
      dsimp only
      clear k0 k1
      have B5 : Below w.heap.size w W5 := hb.trans (hb5.mono hb.size)
      have p2 : W5.cell? ⟨b, 2, none⟩ = some (.slice (some ⟨gy, 0, none⟩) s cy) := (B5.cell (p := ⟨b, 2, none⟩) hblt).trans q2'
      have py : W5.cell? ⟨gy, j, none⟩ = some (.int .i64 yj) := (B5.cell (p := ⟨gy, j, none⟩) hgy).trans cy0
      cases h1 : (lj == 1) with
      | true =>
        rw [h1] at HA2 hlq
        simp only [if_true] at HA2
        go_wp2_with fail
        refine (least_any a yj W5).mono ?_
        rintro u w6 ⟨rfl, rfl⟩
        go_wp2_with fail
        exact ⟨⟨j + 1, _, by go_num, rfl, by omega, HA2, B5⟩, by simp [intOf]; omega⟩
      | false =>
        rw [h1] at HA2 hlq
        simp only [Bool.false_eq_true, if_false] at HA2
        go_wp2_with fail
        exact ⟨⟨j + 1, a, by go_num, rfl, by omega, HA2, B5⟩, by simp [intOf]; omega⟩
    · obtain rfl : j = s := by omega
      have hj1 : ¬ (j : Int) < (j : Int) := by omega
      have hY : Y0 = a := (unhide HA).trans (unhide HEY a)
      subst hY
      clear HA HSY HEY HYC
      by_cases hneg : Y0 < 0
      · have e1 : TD = -1 := by rw [unhide HD, if_pos hneg]
        have e2 : TV = -1 := by rw [unhide HV, if_pos hneg]
        subst e1
        subst e2
        go_wp2_with fail
        go_ret2
        exact ⟨rfl, hb⟩
      · rw [if_neg hneg] at HD HV
        have e2 : TV = Y0 := unhide HV
        subst e2
        obtain ⟨wq, hwq⟩ : ∃ W, W = wr := ⟨_, rfl⟩
        subst hwq
        go_wp2_with fail
        go_loopw [6, 9] (fun a6 a9 wr => ∃ (i : Nat) (dd : Int), a9 = .int .i64 (i : Int) ∧ a6 = .int .i64 dd ∧ i ≤ qn ∧ Hid (TD = stepR N t (List.range' j (n - j)) (stepE j y N t (Q.drop i) dd)) ∧ Below w.heap.size w wr) (fun _ a9 _ => qn - (intOf a9).toNat)
        case atStart => exact ⟨0, TV, rfl, rfl, Nat.zero_le _, HD, hb⟩
        case round =>
          obtain ⟨i, dd, rfl, rfl, hi, HA, hb⟩ := hrel
          have zb := hb.size
          have p1 : wr.cell? ⟨b, 1, none⟩ = some (.slice aQ qn cQ) := (hb.cell (p := ⟨b, 1, none⟩) hblt).trans q1
          by_cases hlt : i < qn
          · have hiQ : i < Q.length := by have := unhide HQN; omega
            obtain ⟨ge, off, rfl, hge, d0, d1, d2, d3, d4⟩ := unhide HEC i hiQ
            have hi0 : (0 : Int) ≤ (i : Int) := by omega
            have hi1 : (i : Int) < (qn : Int) := by omega
            have HA2 := hide ((unhide HA).trans (congrArg _ (unhide HSE i dd hiQ)))
            obtain ⟨rA, rB⟩ := unhide HQ _ (List.getElem_mem hiQ)
            have SL := hide (fun w1 hb1 => unhide HSA w1 hb1 _ rA rB)
            have HE1 : Hid (stepE1 j y N t Q[i] dd = if (top N Q[i].A.toNat == top N Q[i].B.toNat || (lab t (top N Q[i].A.toNat) == 2 || lab t (top N Q[i].B.toNat) == 2)) = true then dd else if (lab t (top N Q[i].A.toNat) == 1 && lab t (top N Q[i].B.toNat) == 1) = true then least dd (wrap64 ((slack j y N Q[i]).tdiv 2)) else if (lab t (top N Q[i].A.toNat) == 1 || lab t (top N Q[i].B.toNat) == 1) = true then least dd (slack j y N Q[i]) else dd) := rfl
            generalize stepE1 j y N t Q[i] dd = D1 at HA2 HE1
            generalize slack j y N Q[i] = sl at SL HE1
            generalize Q[i] = q at d0 d1 d2 d3 d4 rA rB SL HE1
            obtain ⟨eA, eB, x1, x2, x3⟩ := q
            simp only at d0 d1 d2 d3 d4 rA rB HE1
            unfold EdgeI.v at SL
            simp only at SL
            obtain ⟨A, rfl⟩ := Int.eq_ofNat_of_zero_le rA.1
            obtain ⟨B, rfl⟩ := Int.eq_ofNat_of_zero_le rB.1
            rw [Int.toNat_natCast, Int.toNat_natCast] at HE1
            have hgw : ge < w.heap.size := by omega
            rw [← hb.cell (p := ⟨ge, off + i * 5, none⟩) (by simp; omega)] at d0
            rw [← hb.cell (p := ⟨ge, off + i * 5 + 1, none⟩) (by simp; omega)] at d1
            rw [← hb.cell (p := ⟨ge, off + i * 5 + 2, none⟩) (by simp; omega)] at d2
            rw [← hb.cell (p := ⟨ge, off + i * 5 + 3, none⟩) (by simp; omega)] at d3
            rw [← hb.cell (p := ⟨ge, off + i * 5 + 4, none⟩) (by simp; omega)] at d4
            have TA := hide (fun w1 hb1 => unhide HTA w1 hb1 A (by omega))
            have TB := hide (fun w1 hb1 => unhide HTA w1 hb1 B (by omega))
            have hta := unhide HTL A (by omega)
            have htb := unhide HTL B (by omega)
            generalize top N A = ta at TA HE1 hta
            generalize top N B = tb at TB HE1 htb
            obtain ⟨gl, rfl, hgl, ca⟩ := unhide HLC ta hta
            obtain ⟨gl2, e2, _, cb⟩ := unhide HLC tb htb
            simp at e2
            subst e2
            obtain ⟨V, hV⟩ : ∃ W, W = wr.alloc (Obj.cells #[.int .i64 (A : Int), .int .i64 (B : Int), .int .i64 x1, .int .i64 x2, .int .i64 x3] 68) := ⟨_, rfl⟩
            have bV : Below wr.heap.size wr V := by rw [hV]; exact below_new _ _
            have mV : Blk V wr.heap.size #[.int .i64 (A : Int), .int .i64 (B : Int), .int .i64 x1, .int .i64 x2, .int .i64 x3] 68 := by rw [hV]; exact Blk.new0
            have BV : Below w.heap.size w V := hb.trans (bV.mono hb.size)
            have hgwr : ge < wr.heap.size := by omega
            go_wp2_with fail
            rw [← hV]
            clear hV d0 d1 d2 d3 d4 p1
            have m0 : V.cell? ⟨wr.heap.size, 0, none⟩ = some (.int .i64 (A : Int)) := mV.cell 0 _ rfl
            have m1 : V.cell? ⟨wr.heap.size, 1, none⟩ = some (.int .i64 (B : Int)) := mV.cell 1 _ rfl
            have m2 : V.cell? ⟨wr.heap.size, 2, none⟩ = some (.int .i64 x1) := mV.cell 2 _ rfl
            have m3 : V.cell? ⟨wr.heap.size, 3, none⟩ = some (.int .i64 x2) := mV.cell 3 _ rfl
            have m4 : V.cell? ⟨wr.heap.size, 4, none⟩ = some (.int .i64 x3) := mV.cell 4 _ rfl
            have l0 : V.cell? ⟨bt, 0, none⟩ = some (.slice (some ⟨gl, 0, none⟩) n cl) := (BV.cell (p := ⟨bt, 0, none⟩) hbt).trans t0'
            have la : V.cell? ⟨gl, ta, none⟩ = some (.int .i64 (lab t ta : Int)) := (BV.cell (p := ⟨gl, ta, none⟩) hgl).trans ca
            have lb : V.cell? ⟨gl, tb, none⟩ = some (.int .i64 (lab t tb : Int)) := (BV.cell (p := ⟨gl, tb, none⟩) hgl).trans cb
            have SL1 := hide (unhide SL V BV)
            have a0 : (0 : Int) ≤ (ta : Int) := by omega
            have a1 : (ta : Int) < (n : Int) := by omega
            have b0 : (0 : Int) ≤ (tb : Int) := by omega
            have b1 : (tb : Int) < (n : Int) := by omega
            have hab := nat_beq ta tb
            have ha2 : ((lab t ta : Int) == 2) = (lab t ta == 2) := nat_beq (lab t ta) 2
            have hb2 : ((lab t tb : Int) == 2) = (lab t tb == 2) := nat_beq (lab t tb) 2
            have ha1 : ((lab t ta : Int) == 1) = (lab t ta == 1) := nat_beq (lab t ta) 1
            have hb1 : ((lab t tb : Int) == 1) = (lab t tb == 1) := nat_beq (lab t tb) 1
            have h12 : ∀ x : Nat, (x == 1) = true → (x == 2) = false := fun x h => by simp at h; subst h; rfl
            have ha12 := h12 (lab t ta)
            have hb12 := h12 (lab t tb)
            clear h12
            generalize lab t ta = xa at la HE1 ha2 ha1 ha12
            generalize lab t tb = xb at lb HE1 hb2 hb1 hb12
            go_wp2_with fail
            refine (unhide TA V BV).mono ?_
            rintro u w6 ⟨rfl, rfl⟩
            go_wp2_with fail
            refine (unhide TB w6 BV).mono ?_
            rintro u w7 ⟨rfl, rfl⟩
            generalize (ta == tb) = bab at hab HE1
            generalize (xa == 2) = ba2 at ha2 HE1 ha12
            generalize (xb == 2) = bb2 at hb2 HE1 hb12
            generalize (xa == 1) = ba1 at ha1 HE1 ha12
            generalize (xb == 1) = bb1 at hb1 HE1 hb12
            have skip : Hid (D1 = dd) → Hid (TD = stepR N t (List.range' j (n - j)) (stepE j y N t (Q.drop (i + 1)) dd)) := fun h => by show _ = _; rw [← (unhide h)]; exact unhide HA2
            cases bab with
            | true =>
              have hD : Hid (D1 = dd) := by show _ = _; rw [unhide HE1]; rfl
              have HA3 := skip hD
              go_wp2_with fail
              exact ⟨⟨i + 1, dd, by go_num, rfl, by omega, HA3, BV⟩, by simp [intOf]; omega⟩
            | false =>
              cases ba2 with
              | true =>
                have hD : Hid (D1 = dd) := by show _ = _; rw [unhide HE1]; rfl
                have HA3 := skip hD
                go_wp2_with fail
                exact ⟨⟨i + 1, dd, by go_num, rfl, by omega, HA3, BV⟩, by simp [intOf]; omega⟩
              | false =>
                cases bb2 with
                | true =>
                  have hD : Hid (D1 = dd) := by show _ = _; rw [unhide HE1]; rfl
                  have HA3 := skip hD
                  go_wp2_with fail
                  exact ⟨⟨i + 1, dd, by go_num, rfl, by omega, HA3, BV⟩, by simp [intOf]; omega⟩
                | false =>
                  cases ba1 with
                  | true =>
                    cases bb1 with
                    | true =>
                      have hD : Hid (D1 = least dd (wrap64 (sl.tdiv 2))) := by show _ = _; rw [unhide HE1]; rfl
                      go_wp2_with fail
                      refine (unhide SL1).mono ?_
                      rintro u w8 ⟨rfl, b8⟩
                      have B8 : Below w.heap.size w w8 := BV.trans (b8.mono BV.size)
                      go_wp2_with fail
                      refine (least_any dd (wrap64 (sl.tdiv 2)) w8).mono ?_
                      rintro u w9 ⟨rfl, rfl⟩
                      rw [← unhide hD]
                      go_wp2_with fail
                      exact ⟨⟨i + 1, D1, by go_num, rfl, by omega, HA2, B8⟩, by simp [intOf]; omega⟩
                    | false =>
                      have hD : Hid (D1 = least dd sl) := by show _ = _; rw [unhide HE1]; rfl
                      go_wp2_with fail
                      refine (unhide SL1).mono ?_
                      rintro u w8 ⟨rfl, b8⟩
                      have B8 : Below w.heap.size w w8 := BV.trans (b8.mono BV.size)
                      go_wp2_with fail
                      refine (least_any dd sl w8).mono ?_
                      rintro u w9 ⟨rfl, rfl⟩
                      rw [← unhide hD]
                      go_wp2_with fail
                      exact ⟨⟨i + 1, D1, by go_num, rfl, by omega, HA2, B8⟩, by simp [intOf]; omega⟩
                  | false =>
                    cases bb1 with
                    | true =>
                      have hD : Hid (D1 = least dd sl) := by show _ = _; rw [unhide HE1]; rfl
                      go_wp2_with fail
                      refine (unhide SL1).mono ?_
                      rintro u w8 ⟨rfl, b8⟩
                      have B8 : Below w.heap.size w w8 := BV.trans (b8.mono BV.size)
                      go_wp2_with fail
                      refine (least_any dd sl w8).mono ?_
                      rintro u w9 ⟨rfl, rfl⟩
                      rw [← unhide hD]
                      go_wp2_with fail
                      exact ⟨⟨i + 1, D1, by go_num, rfl, by omega, HA2, B8⟩, by simp [intOf]; omega⟩
                    | false =>
                      have hD : Hid (D1 = dd) := by show _ = _; rw [unhide HE1]; rfl
                      have HA3 := skip hD
                      go_wp2_with fail
                      exact ⟨⟨i + 1, dd, by go_num, rfl, by omega, HA3, BV⟩, by simp [intOf]; omega⟩
          · obtain rfl : i = qn := by omega
            have hi1 : ¬ (i : Int) < (i : Int) := by omega
            have HA2 : Hid (TD = stepR N t (List.range' j (n - j)) dd) := by show _ = _; rw [unhide HA, unhide HEE]
            have p0 : wr.cell? ⟨b, 0, none⟩ = some (.int .i64 (j : Int)) := (hb.cell (p := ⟨b, 0, none⟩) hblt).trans q0
            clear HA
            obtain ⟨wp, hwp⟩ : ∃ W, W = wr := ⟨_, rfl⟩
            subst hwp
            go_wp2_with fail
            go_loopw [6, 13] (fun a6 a13 wr => ∃ (i : Nat) (dd : Int), a13 = .int .i64 (i : Int) ∧ a6 = .int .i64 dd ∧ i ≤ n ∧ Hid (TD = stepR N t (List.range' i (n - i)) dd) ∧ Below w.heap.size w wr) (fun _ a13 _ => n - (intOf a13).toNat)
            case atStart => exact ⟨j, dd, rfl, rfl, hs, HA2, hb⟩
            case round =>
              obtain ⟨i3, d3, rfl, rfl, hi3, HA3, hb⟩ := hrel
              have zb := hb.size
              have p3 : wr.cell? ⟨b, 3, none⟩ = some (.slice an n cn) := (hb.cell (p := ⟨b, 3, none⟩) hblt).trans q3'
              by_cases hlt3 : i3 < n
              · have h30 : (0 : Int) ≤ (i3 : Int) := by omega
                have h31 : (i3 : Int) < (n : Int) := by omega
                have IT := hide (unhide HIT wr hb i3 hlt3)
                have HA4 := hide ((unhide HA3).trans (unhide HSR i3 d3 hlt3))
                obtain ⟨gn, rfl, hgn, cz⟩ := unhide HNC i3 hlt3
                obtain ⟨gl, rfl, hgl, cl3⟩ := unhide HLC i3 hlt3
                rw [← hb.cell (p := ⟨gn, i3 * 6 + 3, none⟩) hgn] at cz
                rw [← hb.cell (p := ⟨gl, i3, none⟩) hgl] at cl3
                have l0 : wr.cell? ⟨bt, 0, none⟩ = some (.slice (some ⟨gl, 0, none⟩) n cl) := (hb.cell (p := ⟨bt, 0, none⟩) hbt).trans t0'
                have hl2 : ((lab t i3 : Int) == 2) = (lab t i3 == 2) := nat_beq (lab t i3) 2
                generalize (nd N i3).z = z at cz HA4
                generalize (!(nd N i3).gone && decide (upA N i3 < 0)) = it at IT HA4
                generalize lab t i3 = l3 at cl3 HA4 hl2
                generalize (l3 == 2) = b2 at HA4 hl2
                go_wp2_with fail
                refine (unhide IT).mono ?_
                rintro u w6 ⟨rfl, rfl⟩
                cases it with
                | false =>
                  simp only [Bool.false_and, Bool.false_eq_true, if_false] at HA4
                  go_wp2_with fail
                  exact ⟨⟨i3 + 1, d3, by go_num, rfl, by omega, HA4, hb⟩, by simp [intOf]; omega⟩
                | true =>
                  cases b2 with
                  | false =>
                    simp only [Bool.and_false, Bool.false_eq_true, if_false] at HA4
                    go_wp2_with fail
                    exact ⟨⟨i3 + 1, d3, by go_num, rfl, by omega, HA4, hb⟩, by simp [intOf]; omega⟩
                  | true =>
                    simp only [Bool.and_self, if_true] at HA4
                    go_wp2_with fail
                    refine (least_any d3 (wrap64 (z.tdiv 2)) _).mono ?_
                    rintro u w9 ⟨rfl, rfl⟩
                    go_wp2_with fail
                    exact ⟨⟨i3 + 1, _, by go_num, rfl, by omega, HA4, hb⟩, by simp [intOf]; omega⟩
              · obtain rfl : i3 = n := by omega
                have h31 : ¬ (i3 : Int) < (i3 : Int) := by omega
                have e : TD = d3 := by rw [unhide HA3, unhide HER]
                subst e
                go_wp2_with fail
                go_ret2
                exact ⟨rfl, hb⟩
end
end Sv
end Go.Proofs.Ytkjclkelnheheaa
