/-
  Texts of this claim, one behind the other: Sc3, Sc4.
-/
import Derived.Test.YtjhnippfepbjmaaGreatDoorJ14
import Derived.Deep.DeepCutAuto
import Derived.Deep.CutBlock
import Derived.Test.YtjhnippfepbjmaaGreatDoorJ11
import Derived.Deep.RegionHeld3

/-
  The contract of spec.l16Ask: the text of what the parts of a line ask.
-/
namespace Go.Proofs.YtjhnippfepbjmaaGreatDoor
namespace Sc
open Go.RowKit
open Gr (DeedI deedOk askN askR askOf own_below Grown wp_region_grown padL AskI)

def TextPost (e : Ending) (o : Option ByteArray) : Prop := e = .returned (.tuple #[.string (o.getD ⟨#[]⟩), .bool o.isSome])

theorem text_cons_raw {x h : ByteArray} (hx : isRaw x = true) : textM [x, h] = unhexO h := by simp only [textM]; rw [if_pos hx]
theorem text_cons_rawno {x : ByteArray} {r : List ByteArray} (hx : isRaw x = true) (hr : r.length ≠ 1) : textM (x :: r) = none := by
  simp only [textM]
  rw [if_pos hx]
  match r, hr with
  | [], _ => rfl
  | [h], hr => simp at hr
  | a :: b :: q, _ => rfl
theorem text_cons {x : ByteArray} {r : List ByteArray} (hx : isRaw x = false) : textM (x :: r) = askM (opW x) r := by simp only [textM]; rw [if_neg (by rw [hx]; simp)]

theorem numsM_drop {r : List ByteArray} {i : Nat} (h : i < r.length) : numsM (r.drop i) = (match rdD r[i] with | none => none | some n => (numsM (r.drop (i + 1))).map (fun l => (n : Int) :: l)) := by
  rw [List.drop_eq_getElem_cons h]
  rfl

theorem pad_set {done : List Int} {x : Int} (h : done.length < 5) : (Gr.intsV (padL done)).set done.length (.int .i64 x) = Gr.intsV (padL (done ++ [x])) := by
  unfold padL
  obtain ⟨k, hk⟩ : ∃ k, 5 - done.length = k + 1 := ⟨4 - done.length, by omega⟩
  have hk2 : 5 - (done ++ [x]).length = k := by simp; omega
  rw [hk, hk2]
  simp [Gr.intsV, List.replicate_succ]

theorem pad_len {done : List Int} (h : done.length ≤ 5) : (padL done).length = 5 := by unfold padL; simp; omega

theorem askN_le' (op : Int) : askN op ≤ 5 := Gr.askN_le op

theorem askM_zero {op : Int} {r : List ByteArray} (h : op = 0) : askM op r = none := by unfold askM; rw [if_pos h]
theorem askM_len {op : Int} {r : List ByteArray} (h : op ≠ 0) (h2 : r.length ≠ askN op) : askM op r = none := by unfold askM; rw [if_neg h, if_neg h2]
theorem askM_yes {op : Int} {r : List ByteArray} (h : op ≠ 0) (h2 : r.length = askN op) : askM op r = (match numsM r with | none => none | some ns => askR (askOf op ns)) := by unfold askM; rw [if_neg h, if_pos h2]; cases numsM r <;> rfl

set_option maxRecDepth 100000 in
set_option maxHeartbeats 4000000 in
/-- Behind the question for raw. -/
theorem askRest (x : ByteArray) (r : List ByteArray) (b off c : Nat) (w : World) (hbw : b < w.heap.size) (n : Nat) (hrl : n ≤ 7) (hn : n = r.length) (c0 : w.cell? ⟨b, off, none⟩ = some (.string x))
    (hc : ∀ j (hj : j < r.length), w.cell? ⟨b, off + (1 + j), none⟩ = some (.string r[j])) (hor : n ≠ 1 ∨ (x.toList == [114, 97, 119]) = false) :
    Calls Tryz.prog 24 #[.slice (some ⟨b, off, none⟩) (n + 1) c] w fun e w' => TextPost e (askM (opW x) r) ∧ Below w.heap.size w w' := by
  have HN := hide hn
  have HC := hide hc
  have HOR := hide hor
  have WD := hide (fun w => word_any x w)
  have RD := hide (fun x w => specRD x w)
  have hop := opW_bd x
  clear hn hc hor
  have hcn : cntW x = if opW x = 0 then -1 else (askN (opW x) : Int) := rfl
  generalize hcw : cntW x = k at WD hcn
  clear hcw
  generalize opW x = op at WD hcn hop ⊢
  obtain ⟨R, hR⟩ : ∃ R, R = askM op r := ⟨_, rfl⟩
  rw [← hR]
  have HR0 := hide hR
  clear hR
  go_enter Tryz.func24, Tryz.ntmps24
  go_upto_region 1 with fail
  go_cut [18] (fun cc wx => cc = .bool false ∧ wx = w)
  case first =>
    by_cases h2 : n = 1
    · subst h2
      have hq : (x.toList == [114, 97, 119]) = false := by have := unhide HOR; simpa using this
      go_wp2
      go_meet
      case rel => exact ⟨rfl, rfl⟩
    · have h3 : ((n : Int) + 1 == 2) = false := by rw [beq_eq_false_iff_ne]; omega
      go_wp2
      go_meet
      case rel => exact ⟨rfl, rfl⟩
  case rest =>
    obtain ⟨rfl, hwc⟩ := hcut
    subst wc
    by_cases ho : op = 0
    · have HE : Hid (R = none) := by show _ = _; rw [unhide HR0, askM_zero ho]
      rw [if_pos ho] at hcn
      subst hcn
      have HO := hide ho
      clear ho
      go_wp2_with fail
      refine (unhide WD _).mono ?_
      rintro e w1 ⟨rfl, rfl⟩
      go_wp2
      go_ret2
      rw [unhide HE]
      exact ⟨rfl, Below.refl _ _⟩
    · rw [if_neg ho] at hcn
      have hNl := askN_le' op
      obtain ⟨m, hm⟩ : ∃ m, m = askN op := ⟨_, rfl⟩
      rw [← hm] at hcn hNl
      subst hcn
      have HM := hide hm
      have HO := hide ho
      clear hm ho
      by_cases hl : n = m
      · subst hl
        have HR : Hid (R = (match numsM r with | none => none | some ns => askR (askOf op ns))) := by
          show _ = _
          rw [unhide HR0, askM_yes (unhide HO) (by rw [← unhide HN, unhide HM])]
        have hq : (((n : Int) + 1) != ((n : Int) + 1)) = false := by simp
        go_wp2_with fail
        refine (unhide WD _).mono ?_
        rintro e w1 ⟨rfl, rfl⟩
        have HW0 : Hid ((w1.alloc (.cells #[.int .i64 0, .int .i64 0, .int .i64 0, .int .i64 0, .int .i64 0] 3)).ownsRow w1.heap.size 3 1 (.slice (some ⟨w1.heap.size, 0, none⟩) 5 5) 5 (Gr.intsV (padL []))) :=
          ⟨rfl, .inr ⟨w1.heap.size, 5, _, rfl, Nat.le_refl _, heap_alloc_new w1 _, Nat.le_refl _, by decide, rfl, rfl⟩⟩
        go_wp2_with fail
        go_loopw [7] (fun a7 wr => ∃ (i : Nat) (done : List Int), a7 = .int .i64 i ∧ i ≤ n ∧ Hid (done.length = i) ∧ Hid ((numsM (r.drop i)).map (done ++ ·) = numsM r) ∧ wr.ownsRow w1.heap.size 3 1 (.slice (some ⟨w1.heap.size, 0, none⟩) 5 5) 5 (Gr.intsV (padL done)) ∧ Below w1.heap.size w1 wr)
          (fun a7 _ => n - (intOf a7).toNat)
        case atStart => exact ⟨0, [], rfl, Nat.zero_le _, rfl, by show _ = _; simp, unhide HW0, (Below.refl _ _).alloc (Nat.le_refl _) _⟩
        case round =>
          obtain ⟨i, done, rfl, hi, HD, HNM, hown, hb⟩ := hrel
          have hbs := hb.size
          by_cases hlt : i < n
          · have hir : i < r.length := by rw [← unhide HN]; exact hlt
            have hce : wr.cell? ⟨b, off + (1 + i), none⟩ = some (.string r[i]) := (hb.cell (p := ⟨b, off + (1 + i), none⟩) hbw).trans (unhide HC i hir)
            have hx1 : (1 : Int) + (i : Int) < (n : Int) + 1 := by omega
            have hx0 : (0 : Int) ≤ 1 + (i : Int) := by omega
            have RX := hide (unhide RD r[i])
            have hbd := oN_bd r[i]
            have HS := hide (numsM_drop hir)
            generalize r[i] = y at hce RX hbd HS
            cases hx : rdD y with
            | none =>
              rw [hx] at RX HS
              have HE : Hid (R = none) := by
                show _ = _
                rw [unhide HR, ← unhide HNM, unhide HS]
                rfl
              clear hown hx hbd HS
              change Hid (∀ w, Calls _ _ _ w fun e w' => e = .returned (.tuple #[.int .i64 0, .bool false]) ∧ _) at RX
              go_wp2_with fail
              refine (unhide RX _).mono ?_
              rintro e w2 ⟨rfl, hb2⟩
              go_wp2
              go_ret2
              rw [unhide HE]
              exact ⟨rfl, hb.trans (hb2.mono hbs)⟩
            | some v =>
              rw [hx] at RX HS hbd
              have HO2 := hide (fun (w2 : World) (h2 : Below wr.heap.size wr w2) => own_below hown h2)
              change Hid (∀ w, Calls _ _ _ w fun e w' => e = .returned (.tuple #[.int .i64 (v : Int), .bool true]) ∧ _) at RX
              clear hown hx hbd
              go_wp2_with fail
              refine (unhide RX _).mono ?_
              rintro e w2 ⟨rfl, hb2⟩
              have hown := unhide HO2 w2 hb2
              have hfz := hown.frozenAt i
              have hst := (hown.stored i (.int .i64 (v : Int))).1
              have hdl := unhide HD
              have hce2 : ∃ u, w2.cell? ⟨w1.heap.size, i, none⟩ = some (.int .i64 u) := by
                have h1 := hown.cellAt i (by omega)
                have h2 : i < (padL done).length := by rw [pad_len (by omega)]; omega
                have h3 : (Gr.intsV (padL done))[i]? = some (.int .i64 (padL done)[i]) := by simp [Gr.intsV, h2]
                exact ⟨_, h1.trans h3⟩
              obtain ⟨u, hce2⟩ := hce2
              have hst2 : (w2.setCell ⟨w1.heap.size, i, none⟩ (.int .i64 (v : Int))).ownsRow w1.heap.size 3 1 (.slice (some ⟨w1.heap.size, 0, none⟩) 5 5) 5 (Gr.intsV (padL (done ++ [(v : Int)]))) := by
                rw [← pad_set (by omega), hdl]
                exact hst
              have hb3 : Below w1.heap.size w1 (w2.setCell ⟨w1.heap.size, i, none⟩ (.int .i64 (v : Int))) := (hb.trans (hb2.mono hbs)).setCell (p := ⟨w1.heap.size, i, none⟩) (Nat.le_refl _) _
              have HST := hide hst2
              have hi5 : (i : Int) < 5 := by omega
              clear hst hst2 hown HO2 hdl
              go_wp2
              go_roundw
              case rel =>
                refine ⟨i + 1, done ++ [(v : Int)], by go_num, by omega, by show _ = _; simp; exact unhide HD, ?_, unhide HST, hb3⟩
                show _ = _
                rw [← unhide HNM, unhide HS]
                simp only [Option.map_map]
                congr 1
                funext l
                simp
              case measure => simp [intOf]; omega
          · obtain rfl : i = n := by omega
            have hdl : numsM r = some done := by
              have h1 := unhide HNM
              rw [List.drop_of_length_le (by rw [← unhide HN]; exact Nat.le_refl _)] at h1
              rw [← h1]
              simp [numsM]
            have HE : Hid (R = askR (askOf op done)) := by show _ = _; rw [unhide HR, hdl]
            have hd5 : done.length ≤ 5 := by have := unhide HD; omega
            have hcl : ∀ j (hj : j < 5), wr.cell? ⟨w1.heap.size, j, none⟩ = some (.int .i64 ((padL done).getD j 0)) := fun j hj => by
              have h1 := hown.cellAt j (by omega)
              have h2 : j < (padL done).length := by rw [pad_len hd5]; omega
              have h3 : (Gr.intsV (padL done))[j]? = some (.int .i64 ((padL done).getD j 0)) := by simp [Gr.intsV, h2]
              exact h1.trans h3
            have hlw : w1.heap.size < wr.heap.size := by
              have := (hown.lt w1.heap.size rfl).2
              exact this
            have d0 := hcl 0 (by omega)
            have d1 := hcl 1 (by omega)
            have d2 := hcl 2 (by omega)
            have d3 := hcl 3 (by omega)
            have d4 := hcl 4 (by omega)
            have AT0 := fun W => Gr.specAskText_any (askOf op done) W
            have HAT : Hid (∀ W, Calls Tryz.prog 36 #[.agg #[.int .i64 op, .int .i64 ((padL done).getD 0 0), .int .i64 ((padL done).getD 1 0), .int .i64 ((padL done).getD 2 0), .int .i64 ((padL done).getD 3 0), .int .i64 ((padL done).getD 4 0)]] W fun e w' => e = .returned (.tuple #[.string (R.getD ⟨#[]⟩), .bool R.isSome]) ∧ Below W.heap.size W w') := fun W => by rw [unhide HE]; exact AT0 W
            generalize (padL done).getD 0 0 = y0 at d0 HAT
            generalize (padL done).getD 1 0 = y1 at d1 HAT
            generalize (padL done).getD 2 0 = y2 at d2 HAT
            generalize (padL done).getD 3 0 = y3 at d3 HAT
            generalize (padL done).getD 4 0 = y4 at d4 HAT
            have k0 : ∀ d : Grown wr.heap.size wr, d.w.cell? ⟨w1.heap.size, 0, none⟩ = some (.int .i64 y0) := fun d => d.cell hlw d0
            have k1 : ∀ d : Grown wr.heap.size wr, d.w.cell? ⟨w1.heap.size, 1, none⟩ = some (.int .i64 y1) := fun d => d.cell hlw d1
            have k2 : ∀ d : Grown wr.heap.size wr, d.w.cell? ⟨w1.heap.size, 2, none⟩ = some (.int .i64 y2) := fun d => d.cell hlw d2
            have k3 : ∀ d : Grown wr.heap.size wr, d.w.cell? ⟨w1.heap.size, 3, none⟩ = some (.int .i64 y3) := fun d => d.cell hlw d3
            have k4 : ∀ d : Grown wr.heap.size wr, d.w.cell? ⟨w1.heap.size, 4, none⟩ = some (.int .i64 y4) := fun d => d.cell hlw d4
            have HBN : Hid (∀ d : Grown wr.heap.size wr, Below w1.heap.size w1 d.w) := fun d => hb.trans (d.below.mono hbs)
            clear hown hcl d0 d1 d2 d3 d4 AT0 hdl HE
            go_wp2_with fail
            refine wp_region_grown wr.heap.size (by kernel_rfl) (by kernel_rfl) ?_
            repeat (go_big_quiet_step (first | (go_at_call 36; exact Gr.Calls.grown (Nat.le_refl _) (unhide HAT _))))
            refine wpQuiet_nil ?_
            rintro w5 ⟨d5, rfl⟩
            go_wp2
            go_ret2
            exact ⟨rfl, unhide HBN d5⟩
      · have HE : Hid (R = none) := by show _ = _; rw [unhide HR0, askM_len (unhide HO) (by rw [← unhide HN, ← unhide HM]; exact hl)]
        have hq : (((n : Int) + 1) != ((m : Int) + 1)) = true := by rw [bne_iff_ne]; omega
        go_wp2_with fail
        refine (unhide WD _).mono ?_
        rintro e w1 ⟨rfl, rfl⟩
        go_wp2
        go_ret2
        rw [unhide HE]
        exact ⟨rfl, Below.refl _ _⟩

set_option maxRecDepth 100000 in
set_option maxHeartbeats 4000000 in
theorem specAsk (a : Option Addr) (c B : Nat) (L : List ByteArray) (hL : L.length ≤ 8) (w : World) (hB : B ≤ w.heap.size) (h : txAt w a B L) :
    Calls Tryz.prog 24 #[.slice a L.length c] w fun e w' => TextPost e (textM L) ∧ Below w.heap.size w w' := by
  match L, hL, h with
  | [], _, _ =>
    go_enter Tryz.func24, Tryz.ntmps24
    go_wp2
    go_ret2
    exact ⟨rfl, Below.refl _ _⟩
  | x :: r, hL, h =>
    obtain ⟨b, off, rfl, hbB, c0⟩ := h 0 (by simp)
    simp only [List.getElem_cons_zero, Nat.add_zero] at c0
    have hrl : r.length ≤ 7 := by simp at hL; omega
    have HC : Hid (∀ j (hj : j < r.length), w.cell? ⟨b, off + (1 + j), none⟩ = some (.string r[j])) := fun j hj => by
      obtain ⟨b', off', e, _, hc⟩ := h (j + 1) (by simp; omega)
      simp at e
      obtain ⟨rfl, rfl⟩ := e
      rw [Nat.add_comm 1 j]
      simpa using hc
    have hbw : b < w.heap.size := by omega
    clear h
    simp only [List.length_cons]
    obtain ⟨n, hn⟩ : ∃ n, n = r.length := ⟨_, rfl⟩
    rw [← hn] at hrl ⊢
    have HN := hide hn
    clear hn
    have hxr : isRaw x = (x.toList == [114, 97, 119]) := rfl
    by_cases h2 : n = 1
    · subst h2
      have hr : ∃ q, r = [q] := List.length_eq_one_iff.1 (unhide HN).symm
      obtain ⟨q, rfl⟩ := hr
      have c1 := unhide HC 0 (by simp)
      simp only [List.getElem_cons_zero, Nat.add_zero] at c1
      cases hq : isRaw x with
      | true =>
        rw [text_cons_raw hq]
        have hq2 : (x.toList == [114, 97, 119]) = true := by rw [← hxr]; exact hq
        have UX := hide (fun w => specUx q w)
        clear hq hxr
        generalize unhexO q = o at UX
        go_enter Tryz.func24, Tryz.ntmps24
        go_wp2_with fail
        refine (unhide UX _).mono ?_
        rintro e w1 ⟨rfl, hb1⟩
        go_wp2
        go_ret2
        exact ⟨rfl, hb1⟩
      | false =>
        have hq2 : (x.toList == [114, 97, 119]) = false := by rw [← hxr]; exact hq
        rw [text_cons hq]
        clear hq hxr
        exact askRest x [q] b off c w hbw 1 (by omega) rfl c0 (unhide HC) (Or.inr hq2)
    · cases hq : isRaw x with
      | true =>
        have e0 : textM (x :: r) = askM (opW x) r := by
          rw [text_cons_rawno hq (by have := unhide HN; omega), raw_op hq]
          rfl
        rw [e0]
        exact askRest x r b off c w hbw n hrl (unhide HN) c0 (unhide HC) (Or.inl h2)
      | false =>
        rw [text_cons hq]
        exact askRest x r b off c w hbw n hrl (unhide HN) c0 (unhide HC) (Or.inl h2)

end Sc
end Go.Proofs.YtjhnippfepbjmaaGreatDoor

/-
  The contract of spec.l16Deed: a line's deed, or none.
-/
namespace Go.Proofs.YtjhnippfepbjmaaGreatDoor
namespace Sc
open Go.RowKit
open Gr (DeedI deedOk askN askR askOf own_below Grown wp_region_grown InOwn InAt DeAt dsize Blk Kept below_new)

/-- A deed, or none: then its first result is any deed. -/
def DdPost (B : Nat) (w' : World) (e : Ending) (o : Option (DeedI × List Int)) : Prop :=
  ∃ (x : DeedI) (a : Option Addr) (n c : Nat), e = .returned (.tuple #[.agg #[.string x.T, .bool x.c, .int .i64 x.s, .slice a n c, .int .i64 x.o, .int .i64 x.p], .bool o.isSome]) ∧ ∀ y, o = some y → x = y.1 ∧ n = y.2.length ∧ InOwn w' B (.slice a n c) y.2

theorem results_deed2 {fn : Func} {p u : Tmp} (h : fn.results = #[.cell p 46, .tmp u]) (tmps : Array Value) (w : World) (g : Nat) (x0 x1 x2 x3 x4 x5 : Value) (hp : tmps.getD p undef = .pointer (some ⟨g, 0, none⟩)) (hg : Blk w g #[x0, x1, x2, x3, x4, x5] 46) :
    (results fn tmps).run Tryz.prog w = .ok (.tuple #[.agg #[x0, x1, x2, x3, x4, x5], tmps.getD u undef]) w := by
  have c0 := hg.cell 0 x0 rfl
  have c1 := hg.cell 1 x1 rfl
  have c2 := hg.cell 2 x2 rfl
  have c3 := hg.cell 3 x3 rfl
  have c4 := hg.cell 4 x4 rfl
  have c5 := hg.cell 5 x5 rfl
  have hp' : tmps[p]?.getD undef = .pointer (some ⟨g, 0, none⟩) := by simpa using hp
  simp [results, h, hp', go_sem, c0, c1, c2, c3, c4, c5]

/-- A deed's variable in memory. -/
def dCells (T : ByteArray) (c : Bool) (s : Int) (k : Value) (o p : Int) : Array Value := #[.string T, .bool c, .int .i64 s, k, .int .i64 o, .int .i64 p]

theorem in_nil (w : World) (B : Nat) : InOwn w B (.slice none 0 0) [] := ⟨by simp [Gr.intsV], .inl ⟨rfl, rfl⟩⟩

/-- Where the line is a deed's line: what stands in the variable ahead of the text. -/
def DdRel (w : World) (B : Nat) (L : List ByteArray) (p : Value) (wx : World) : Prop :=
  ∃ (a : Option Addr) (c : Nat) (q : List ByteArray) (cu : Bool) (s o pp : Int) (ka : Option Addr) (kc : Nat) (K : List Int),
    p = .slice a q.length c ∧ q.length ≤ 8 ∧ txAt wx a B q ∧ Blk wx w.heap.size (dCells ⟨#[]⟩ false 0 (.slice none 0 0) 0 0) 46 ∧
    Blk wx (w.heap.size + 1) (dCells ⟨#[]⟩ cu s (.slice ka K.length kc) o pp) 46 ∧ InOwn wx (w.heap.size + 1 + 1) (.slice ka K.length kc) K ∧ K.length ≤ 1000 ∧ Below w.heap.size w wx ∧ deedM L = deedOf cu s o pp K q

theorem deed_plain {x : ByteArray} {r : List ByteArray} (h : isPow x = false) : deedM (x :: r) = deedOf false 0 0 0 [] (x :: r) := by
  simp only [deedM]
  rw [if_neg (by rw [h]; simp)]

theorem deed_short {x : ByteArray} {r : List ByteArray} (h : isPow x = true) (hr : r.length < 4) : deedM (x :: r) = none := by
  simp only [deedM]
  rw [if_pos h]
  cases hn : numsM (r.take 3) with
  | none => rfl
  | some K =>
    have hl := numsM_length hn
    rw [List.length_take] at hl
    match K, hl with
    | [], _ => rfl
    | [_], _ => rfl
    | [_, _], _ => rfl
    | [_, _, _], hl =>
      have : r.length = 3 := by simp at hl; omega
      have e : r.drop 3 = [] := List.drop_of_length_le (by omega)
      simp only [e]
      rfl
    | _ :: _ :: _ :: _ :: _, hl => simp at hl; omega

theorem deed_nums {x : ByteArray} {r : List ByteArray} (h : isPow x = true) (hn : numsM (r.take 3) = none) : deedM (x :: r) = none := by
  simp only [deedM]
  rw [if_pos h, hn]

theorem deed_pow {x : ByteArray} {r : List ByteArray} {a b c : Int} (h : isPow x = true) (hn : numsM (r.take 3) = some [a, b, c]) : deedM (x :: r) = powM a b c (r.drop 3) := by
  simp only [deedM]
  rw [if_pos h, hn]

theorem askGo_sizeS (n : Nat) : ∀ (L : List Int) (k : Nat) (s T : ByteArray), Gr.askGo n k s L = some T → T.size ≤ s.size + 5 * L.length
  | [], k, s, T, h => by simp [Gr.askGo] at h; subst h; omega
  | y :: L, k, s, T, h => by
    rw [Gr.askGo] at h
    split at h
    · have h1 := askGo_sizeS n L (k + 1) (if k < n then s ++ Gr.vB y else s) T h
      have h2 : (if k < n then s ++ Gr.vB y else s).size ≤ s.size + 5 := by
        split
        · rw [ByteArray.size_append]; have := Gr.vB_size y; omega
        · omega
      simp only [List.length_cons]
      omega
    · simp at h

theorem unhexF_len (s : ByteArray) : ∀ (f i : Nat) (acc l : List UInt8), Ux.unhexF s f i acc = some l → l.length = acc.length + f
  | 0, i, acc, l, h => by simp [Ux.unhexF] at h; subst h; rfl
  | f + 1, i, acc, l, h => by
    simp only [Ux.unhexF] at h
    split at h
    · simp at h
    · have := unhexF_len s f _ _ l h
      simp at this
      omega

/-- A deed's text is short. -/
theorem text_size {q : List ByteArray} {T : ByteArray} (h : textM q = some T) : T.size ≤ 10000 := by
  match q, h with
  | [], h => simp [textM] at h
  | x :: r, h =>
    simp only [textM] at h
    split at h
    · split at h
      · rename_i z
        unfold unhexO at h
        split at h
        · rename_i hh
          obtain ⟨l, hl, rfl⟩ := Option.map_eq_some_iff.1 h
          have := unhexF_len _ _ _ _ _ hl
          have e : (ByteArray.mk l.toArray).size = l.length := by simp [ByteArray.size]
          rw [e, this]
          simp
          omega
        · simp at h
      · simp at h
    · unfold askM at h
      split at h
      · simp at h
      · split at h
        · split at h
          · simp at h
          · unfold Gr.askR at h
            split at h
            · have h1 := askGo_sizeS _ _ _ _ _ h
              change T.size ≤ 1 + 5 * 5 at h1
              omega
            · simp at h
        · simp at h

theorem deedOf_none {c : Bool} {s o p : Int} {K : List Int} {q : List ByteArray} (h : textM q = none) : deedOf c s o p K q = none := by
  unfold deedOf
  rw [h]

theorem deedOf_some {c : Bool} {s o p : Int} {K : List Int} {q : List ByteArray} {T : ByteArray} (h : textM q = some T) : deedOf c s o p K q = if deedOk ⟨T, c, s, o, p⟩ K = true then some (⟨T, c, s, o, p⟩, K) else none := by
  unfold deedOf
  rw [h]

theorem pieces_len (t : ByteArray) : ∀ (f b i : Nat), (piecesF t f b i).length ≤ f + 1
  | 0, b, i => by simp [piecesF]
  | f + 1, b, i => by
    simp only [piecesF]
    split
    · have := pieces_len t f (i + 1) (i + 1); simp; omega
    · have := pieces_len t f b (i + 1); omega

theorem keep_len {t : ByteArray} {K : List Int} (h : keepM t = some K) : K.length ≤ t.size + 1 := by
  rw [numsM_length h]
  exact pieces_len t t.size 0 0

theorem pow_fig {a b c : Int} {y : ByteArray} {q : List ByteArray} (h : isFig y = true) : powM a b c (y :: q) = (match keepM y with | none => none | some K => deedOf true a b c K q) := by
  simp only [powM]
  rw [if_pos h]
  cases keepM y <;> rfl

theorem pow_word {a b c : Int} {y : ByteArray} {q : List ByteArray} (h : isFig y = false) : powM a b c (y :: q) = deedOf true a b c [] (y :: q) := by
  simp only [powM]
  rw [if_neg (by rw [h]; simp)]

theorem three_of {K : List Int} (h : K.length = 3) : ∃ a b c, K = [a, b, c] := by
  match K, h with
  | [a, b, c], _ => exact ⟨a, b, c, rfl⟩

theorem dd_none {B : Nat} {w' : World} {a : Option Addr} {n c : Nat} (x : DeedI) {o : Option (DeedI × List Int)} (h : o = none) : DdPost B w' (.returned (.tuple #[.agg #[.string x.T, .bool x.c, .int .i64 x.s, .slice a n c, .int .i64 x.o, .int .i64 x.p], .bool false])) o := by
  subst h
  exact ⟨x, a, n, c, rfl, fun y hy => by cases hy⟩

set_option maxRecDepth 100000 in
set_option maxHeartbeats 8000000 in
theorem specDeed (b off c B : Nat) (L : List ByteArray) (h0 : 0 < L.length) (hL : L.length ≤ 8) (hc : L.length ≤ c) (hsz : ∀ x ∈ L, 0 < x.size ∧ x.size ≤ 400) (w : World) (hB : B ≤ w.heap.size) (h : txAt w (some ⟨b, off, none⟩) B L) :
    Calls Tryz.prog 13 #[.slice (some ⟨b, off, none⟩) L.length c] w fun e w' => DdPost w.heap.size w' e (deedM L) ∧ Below w.heap.size w w' := by
  obtain ⟨V, hV⟩ : ∃ W, W = (w.alloc (Obj.cells #[.string ⟨#[]⟩, .bool false, .int .i64 0, .slice none 0 0, .int .i64 0, .int .i64 0] 46)).alloc (Obj.cells #[.string ⟨#[]⟩, .bool false, .int .i64 0, .slice none 0 0, .int .i64 0, .int .i64 0] 46) := ⟨_, rfl⟩
  have bV : Below w.heap.size w V := by rw [hV]; exact (below_new _ _).alloc (by simp) _
  have r0 : Blk V w.heap.size (dCells ⟨#[]⟩ false 0 (.slice none 0 0) 0 0) 46 := by rw [hV]; exact Blk.new0.alloc
  have d0 : Blk V (w.heap.size + 1) (dCells ⟨#[]⟩ false 0 (.slice none 0 0) 0 0) 46 := by rw [hV]; exact Blk.new1
  have hz := d0.lt
  have hV2 := h.below bV hB
  match L, h0, hL, hc, hsz, h, hV2 with
  | x :: r, _, hL, hc, hsz, h, hV2 =>
  simp only [List.length_cons] at hL hc
  obtain ⟨b', off', eb, hbB, cx⟩ := h 0 (by simp)
  simp only [Option.some.injEq, Addr.mk.injEq, and_true] at eb
  obtain ⟨rfl, rfl⟩ := eb
  simp only [List.getElem_cons_zero, Nat.add_zero] at cx
  have hbw : b < w.heap.size := by omega
  obtain ⟨tp, htp⟩ : ∃ t, t = (x.toList == [112, 111, 119, 101, 114]) := ⟨_, rfl⟩
  have HPW : Hid (isPow x = tp) := htp.symm
  have hq : (x.toList == [112, 111, 119, 101, 114]) = tp := htp.symm
  clear htp
  have HTX := hide hV2
  have HSZ := hide hsz
  obtain ⟨n, hn⟩ : ∃ n, n = r.length := ⟨_, rfl⟩
  have HN := hide hn
  simp only [List.length_cons]
  rw [← hn] at hL hc ⊢
  clear h hV2 hsz hn
  go_enter Tryz.func13, Tryz.ntmps13
  go_upto_if 17 with fail
  rw [← hV]
  clear hV cx
  go_cut [0] (fun p wx => Hid (DdRel w B (x :: r) p wx))
  case first =>
    cases tp with
    | false =>
      go_wp2_with fail
      go_meet
      case rel =>
        exact ⟨_, c, x :: r, false, 0, 0, 0, none, 0, [], by rw [List.length_cons, ← unhide HN], by rw [List.length_cons, ← unhide HN]; exact hL, unhide HTX, r0, d0, in_nil _ _, by simp, bV, deed_plain (unhide HPW)⟩
    | true =>
      have e0 : V.cell? ⟨w.heap.size + 1, 0, none⟩ = some (.string ⟨#[]⟩) := d0.cell 0 _ rfl
      have e1 : V.cell? ⟨w.heap.size + 1, 1, none⟩ = some (.bool false) := d0.cell 1 _ rfl
      have e2 : V.cell? ⟨w.heap.size + 1, 2, none⟩ = some (.int .i64 0) := d0.cell 2 _ rfl
      have e3 : V.cell? ⟨w.heap.size + 1, 3, none⟩ = some (.slice none 0 0) := d0.cell 3 _ rfl
      have e4 : V.cell? ⟨w.heap.size + 1, 4, none⟩ = some (.int .i64 0) := d0.cell 4 _ rfl
      have e5 : V.cell? ⟨w.heap.size + 1, 5, none⟩ = some (.int .i64 0) := d0.cell 5 _ rfl
      have z0 : V.cell? ⟨w.heap.size, 0, none⟩ = some (.string ⟨#[]⟩) := r0.cell 0 _ rfl
      have z1 : V.cell? ⟨w.heap.size, 1, none⟩ = some (.bool false) := r0.cell 1 _ rfl
      have z2 : V.cell? ⟨w.heap.size, 2, none⟩ = some (.int .i64 0) := r0.cell 2 _ rfl
      have z3 : V.cell? ⟨w.heap.size, 3, none⟩ = some (.slice none 0 0) := r0.cell 3 _ rfl
      have z4 : V.cell? ⟨w.heap.size, 4, none⟩ = some (.int .i64 0) := r0.cell 4 _ rfl
      have z5 : V.cell? ⟨w.heap.size, 5, none⟩ = some (.int .i64 0) := r0.cell 5 _ rfl
      have zf := r0.froz
      by_cases h4 : n < 4
      · have h4i : (n : Int) + 1 < 5 := by omega
        have HD : Hid (deedM (x :: r) = none) := deed_short (unhide HPW) (by rw [← unhide HN]; exact h4)
        have HR := hide ((((((r0.set 0 (.string ⟨#[]⟩)).set 1 (.bool false)).set 2 (.int .i64 0)).set 3 (.slice none 0 0)).set 4 (.int .i64 0)).set 5 (.int .i64 0))
        have HB9 := hide ((((((bV.setCell (p := ⟨w.heap.size, 0, none⟩) (Nat.le_refl _) (.string ⟨#[]⟩)).setCell (p := ⟨w.heap.size, 1, none⟩) (Nat.le_refl _) (.bool false)).setCell (p := ⟨w.heap.size, 2, none⟩) (Nat.le_refl _) (.int .i64 0)).setCell (p := ⟨w.heap.size, 3, none⟩) (Nat.le_refl _) (.slice none 0 0)).setCell (p := ⟨w.heap.size, 4, none⟩) (Nat.le_refl _) (.int .i64 0)).setCell (p := ⟨w.heap.size, 5, none⟩) (Nat.le_refl _) (.int .i64 0))
        clear r0 d0 bV
        go_wp2_with fail
        (try simp only [Exit.inBlock, Exit.then])
        refine bodyPost_ret (results_deed2 Tryz.results13 _ _ w.heap.size _ _ _ _ _ _ rfl (unhide HR)) rfl ?_
        exact ⟨dd_none ⟨⟨#[]⟩, false, 0, 0, 0⟩ (unhide HD), unhide HB9⟩
      · have h4i : ¬ (n : Int) + 1 < 5 := by omega
        have hr4 : 4 ≤ r.length := by rw [← unhide HN]; omega
        have RD := hide (fun x w => specRD x w)
        obtain ⟨i0, hi0, iz0, iz1, iz2⟩ := info_parts info3
        have HR3 : Hid ((r.take 3).length = 3) := by show _ = _; rw [List.length_take]; omega
        have HP0 := hide (made_in V _ (Nat.le_refl _))
        go_wp2_with fail
        go_loopw [5, 6] (fun out ai wr => ∃ (k : Nat) (done : List Int), ai = .int .i64 ((k : Int) + 1) ∧ k ≤ 3 ∧ Hid (done.length = k) ∧ Hid ((numsM ((r.take 3).drop k)).map (done ++ ·) = numsM (r.take 3)) ∧ wr.ownsRow V.heap.size 3 1 out k (Gr.intsV done) ∧ Below V.heap.size V wr) (fun _ ai _ => 4 - (intOf ai).toNat)
        case atStart => exact ⟨0, [], rfl, Nat.zero_le _, rfl, by show _ = _; simp, unhide HP0, (Below.refl _ _).alloc (Nat.le_refl _) _⟩
        case round =>
          obtain ⟨k, done, rfl, hk, HDL, HNM, hown, hb⟩ := hrel
          have hbs := hb.size
          by_cases hlt : k < 3
          · have hkr : k < r.length := by omega
            have hk3 : k < (r.take 3).length := by rw [unhide HR3]; exact hlt
            have hce : wr.cell? ⟨b, off + (k + 1), none⟩ = some (.string r[k]) := by
              obtain ⟨b', off', e, _, hcx⟩ := ((unhide HTX).below hb (by omega)) (k + 1) (by simp; omega)
              simp only [Option.some.injEq, Addr.mk.injEq, and_true] at e
              obtain ⟨rfl, rfl⟩ := e
              simpa using hcx
            have RX := hide (unhide RD r[k])
            have hbd := oN_bd r[k]
            have HS : Hid (numsM ((r.take 3).drop k) = (match rdD r[k] with | none => none | some n => (numsM ((r.take 3).drop (k + 1))).map (fun l => (n : Int) :: l))) := by
              show _ = _
              rw [numsM_drop hk3]
              have e : (r.take 3)[k] = r[k] := List.getElem_take
              rw [e]
              all_goals (cases rdD r[k] <;> rfl)
            generalize r[k] = y at hce RX hbd HS
            have hx1 : (k : Int) + 1 < (n : Int) + 1 := by omega
            have hx0 : (0 : Int) ≤ (k : Int) + 1 := by omega
            have hx4 : (k : Int) + 1 < 4 := by omega
            have htn : ((k : Int) + 1).toNat = k + 1 := by omega
            cases hy : rdD y with
            | none =>
              rw [hy] at RX HS
              change Hid (∀ w, Calls _ _ _ w fun e w' => e = .returned (.tuple #[.int .i64 0, .bool false]) ∧ _) at RX
              have HD : Hid (deedM (x :: r) = none) := deed_nums (unhide HPW) (by rw [← unhide HNM, unhide HS]; rfl)
              clear hown hbd HS HNM hy
              go_wp2_with fail
              refine (unhide RX _).mono ?_
              rintro e w2 ⟨rfl, hb2⟩
              have hb3 := hb.trans (hb2.mono hbs)
              have r2 := r0.below hb3
              have d2 := d0.below hb3
              have bw2 := bV.trans (hb3.mono bV.size)
              clear e0 e1 e2 e3 e4 e5 z0 z1 z2 z3 z4 z5 zf
              have e0 : w2.cell? ⟨w.heap.size + 1, 0, none⟩ = some (.string ⟨#[]⟩) := d2.cell 0 _ rfl
              have e1 : w2.cell? ⟨w.heap.size + 1, 1, none⟩ = some (.bool false) := d2.cell 1 _ rfl
              have e2 : w2.cell? ⟨w.heap.size + 1, 2, none⟩ = some (.int .i64 0) := d2.cell 2 _ rfl
              have e3 : w2.cell? ⟨w.heap.size + 1, 3, none⟩ = some (.slice none 0 0) := d2.cell 3 _ rfl
              have e4 : w2.cell? ⟨w.heap.size + 1, 4, none⟩ = some (.int .i64 0) := d2.cell 4 _ rfl
              have e5 : w2.cell? ⟨w.heap.size + 1, 5, none⟩ = some (.int .i64 0) := d2.cell 5 _ rfl
              have z0 : w2.cell? ⟨w.heap.size, 0, none⟩ = some (.string ⟨#[]⟩) := r2.cell 0 _ rfl
              have z1 : w2.cell? ⟨w.heap.size, 1, none⟩ = some (.bool false) := r2.cell 1 _ rfl
              have z2 : w2.cell? ⟨w.heap.size, 2, none⟩ = some (.int .i64 0) := r2.cell 2 _ rfl
              have z3 : w2.cell? ⟨w.heap.size, 3, none⟩ = some (.slice none 0 0) := r2.cell 3 _ rfl
              have z4 : w2.cell? ⟨w.heap.size, 4, none⟩ = some (.int .i64 0) := r2.cell 4 _ rfl
              have z5 : w2.cell? ⟨w.heap.size, 5, none⟩ = some (.int .i64 0) := r2.cell 5 _ rfl
              have zf := r2.froz
              have HR := hide ((((((r2.set 0 (.string ⟨#[]⟩)).set 1 (.bool false)).set 2 (.int .i64 0)).set 3 (.slice none 0 0)).set 4 (.int .i64 0)).set 5 (.int .i64 0))
              have HB9 := hide ((((((bw2.setCell (p := ⟨w.heap.size, 0, none⟩) (Nat.le_refl _) (.string ⟨#[]⟩)).setCell (p := ⟨w.heap.size, 1, none⟩) (Nat.le_refl _) (.bool false)).setCell (p := ⟨w.heap.size, 2, none⟩) (Nat.le_refl _) (.int .i64 0)).setCell (p := ⟨w.heap.size, 3, none⟩) (Nat.le_refl _) (.slice none 0 0)).setCell (p := ⟨w.heap.size, 4, none⟩) (Nat.le_refl _) (.int .i64 0)).setCell (p := ⟨w.heap.size, 5, none⟩) (Nat.le_refl _) (.int .i64 0))
              clear r2 d2 bw2 hb2 hb3 hb r0 d0 bV
              go_wp2_with fail
              (try simp only [Exit.inBlock, Exit.then])
              refine bodyPost_ret (results_deed2 Tryz.results13 _ _ w.heap.size _ _ _ _ _ _ rfl (unhide HR)) rfl ?_
              exact ⟨dd_none ⟨⟨#[]⟩, false, 0, 0, 0⟩ (unhide HD), unhide HB9⟩
            | some v =>
              rw [hy] at RX HS hbd
              have HO := hide (fun (w2 : World) (h2 : Below wr.heap.size wr w2) => own_below hown h2)
              change Hid (∀ w, Calls _ _ _ w fun e w' => e = .returned (.tuple #[.int .i64 (v : Int), .bool true]) ∧ _) at RX
              have hdl := unhide HDL
              clear hown hy hbd
              go_wp2_with fail
              refine (unhide RX _).mono ?_
              rintro e w1 ⟨rfl, hb1⟩
              have hb2 := hb.trans (hb1.mono hbs)
              have hbs2 := hb2.size
              have hown := unhide HO w1 hb1
              clear HO hb1 hb
              go_wp2_with (at_builtin; refine wpList_append_own _ rfl _ _ 44 rfl V.heap.size 3 i0 (.int .i64 0) 1 8 Tryz.underlying44 hi0 iz0 iz1 iz2 rfl (by decide) _ _ _ rfl (hown.alloc _) ⟨w1.heap.size, 0, none⟩ 1 1 [.int .i64 (v : Int)] rfl rfl (cell_one_new _ _ _) (one_int _) ?_ ?_ ?_ ?_)
              · unfold maxLen; omega
              · omega
              · first | omega | (simp; omega)
              intro v' w3 hown' hgrow _
              have hb3 := below_append hb2 (Nat.le_refl _) hown hgrow
              have HO1 : Hid (w3.ownsRow V.heap.size 3 1 v' (k + 1) (Gr.intsV (done ++ [(v : Int)]))) := by
                show World.ownsRow _ _ _ _ _ _ _
                have := hown'
                simpa [Gr.intsV] using this
              clear hown' hgrow hown hb2
              go_wp2
              go_roundw
              case rel =>
                refine ⟨k + 1, done ++ [(v : Int)], by go_num, by omega, by show _ = _; simp; exact hdl, ?_, unhide HO1, hb3⟩
                show _ = _
                rw [← unhide HNM, unhide HS]
                simp only [Option.map_map]
                congr 1
                funext l
                simp
              case measure => simp [intOf]; omega
          · obtain rfl : k = 3 := by omega
            have hnm : numsM (r.take 3) = some done := by
              have h1 := unhide HNM
              rw [List.drop_of_length_le (by rw [unhide HR3]; exact Nat.le_refl _)] at h1
              rw [← h1]
              simp [numsM]
            obtain ⟨a0, a1, a2, rfl⟩ := three_of (unhide HDL)
            have HDP : Hid (deedM (x :: r) = powM a0 a1 a2 (r.drop 3)) := deed_pow (unhide HPW) hnm
            obtain ⟨g, cp, hA, hBg, hgl⟩ := hown.form (by omega)
            subst hA
            have l0 : wr.cell? ⟨g, 0, none⟩ = some (.int .i64 a0) := hown.cellAt 0 (by omega)
            have l1 : wr.cell? ⟨g, 1, none⟩ = some (.int .i64 a1) := hown.cellAt 1 (by omega)
            have l2 : wr.cell? ⟨g, 2, none⟩ = some (.int .i64 a2) := hown.cellAt 2 (by omega)
            have r2 := r0.below hb
            have d2 := d0.below hb
            have bw2 := bV.trans (hb.mono bV.size)
            clear e0 e1 e2 e3 e4 e5 z0 z1 z2 z3 z4 z5 zf
            have e1 : wr.cell? ⟨w.heap.size + 1, 1, none⟩ = some (.bool false) := d2.cell 1 _ rfl
            have e2 : wr.cell? ⟨w.heap.size + 1, 2, none⟩ = some (.int .i64 0) := d2.cell 2 _ rfl
            have e4 : wr.cell? ⟨w.heap.size + 1, 4, none⟩ = some (.int .i64 0) := d2.cell 4 _ rfl
            have e5 : wr.cell? ⟨w.heap.size + 1, 5, none⟩ = some (.int .i64 0) := d2.cell 5 _ rfl
            have ef := d2.froz
            obtain ⟨W4, hW4⟩ : ∃ W, W = (((wr.setCell ⟨w.heap.size + 1, 1, none⟩ (.bool true)).setCell ⟨w.heap.size + 1, 2, none⟩ (.int .i64 a0)).setCell ⟨w.heap.size + 1, 4, none⟩ (.int .i64 a1)).setCell ⟨w.heap.size + 1, 5, none⟩ (.int .i64 a2) := ⟨_, rfl⟩
            have k4 : Kept (fun k => k = w.heap.size + 1) wr W4 := by
              rw [hW4]
              exact (((Kept.set (S := fun k => k = w.heap.size + 1) _ _ _ _ rfl).trans (Kept.set (S := fun k => k = w.heap.size + 1) _ _ _ _ rfl)).trans (Kept.set (S := fun k => k = w.heap.size + 1) _ _ _ _ rfl)).trans (Kept.set (S := fun k => k = w.heap.size + 1) _ _ _ _ rfl)
            have d4 : Blk W4 (w.heap.size + 1) (dCells ⟨#[]⟩ true a0 (.slice none 0 0) a1 a2) 46 := by rw [hW4]; exact (((d2.set 1 _).set 2 _).set 4 _).set 5 _
            have r4 := r2.kept k4 (by omega)
            have b4 : Below w.heap.size w W4 := bw2.trans (k4.below bw2.size (fun i hi => by omega))
            have t4 : txAt W4 (some ⟨b, off, none⟩) B (x :: r) := (unhide HTX).below ((hb.mono bV.size).trans (k4.below (Nat.le_trans bV.size hb.size) (fun i hi => by omega))) hB
            have hgd : ¬ g = w.heap.size + 1 := by omega
            have hgd2 : ¬ w.heap.size + 1 = g := by omega
            obtain ⟨m, rfl⟩ : ∃ m, n = m + 4 := ⟨n - 4, by omega⟩
            have hc4 : ¬ c = 4 := by omega
            have hn4 : (4 : Int) ≤ ((m + 4 : Nat) : Int) + 1 := by omega
            have hr3 : 3 < r.length := by omega
            have hdr : r.drop 3 = r[3] :: r.drop 4 := List.drop_eq_getElem_cons hr3
            have hq4 : (r.drop 4).length = m := by rw [List.length_drop, ← unhide HN]; omega
            have hysz := unhide HSZ r[3] (by simp)
            have hcy : W4.cell? ⟨b, off + 4, none⟩ = some (.string r[3]) := by
              obtain ⟨b', off', e, _, hcx⟩ := t4 4 (by simp; omega)
              simp only [Option.some.injEq, Addr.mk.injEq, and_true] at e
              obtain ⟨rfl, rfl⟩ := e
              simpa using hcx
            have t5 : txAt W4 (some ⟨b, off + 4, none⟩) B (r[3] :: r.drop 4) := by
              have h1 := t4.drop 4 (c := c) (by rw [List.length_cons, ← unhide HN]; omega)
              rw [if_neg hc4, List.drop_succ_cons, hdr] at h1
              exact h1
            have t6 : txAt W4 (some ⟨b, off + 4 + 1, none⟩) B (r.drop 4) := by
              have h1 := t5.drop 1 (c := r.length + 2) (by rw [List.length_cons, hq4, ← unhide HN]; omega)
              rw [if_neg (by omega)] at h1
              simpa using h1
            rw [hdr] at HDP
            generalize r[3] = y at hysz hcy t5 HDP
            generalize r.drop 4 = q at hq4 t5 t6 HDP
            have HQ := hide hq4
            have HT5 := hide t5
            have HT6 := hide t6
            clear hown hnm HNM d2 r2 bw2 k4 hdr hr3 t4 t5 t6 hq4 HTX
            go_upto_region 18 with fail
            rw [← hW4]
            clear hW4 e1 e2 e4 e5 ef l0 l1 l2
            have hy0 : 0 < y.size := hysz.1
            have hBy : ((y[0]'hy0).toNat : Int) ≤ 255 := by have := UInt8.toNat_lt (y[0]'hy0); omega
            have HBy := hide (show (byteAt y 0 : Int) = ((y[0]'hy0).toNat : Int) by rw [byteAt_eq hy0])
            have hyi : (0 : Int) < (y.size : Int) := by omega
            by_cases f1 : (48 : Int) ≤ ((y[0]'hy0).toNat : Int)
            · by_cases f2 : ((y[0]'hy0).toNat : Int) ≤ 57
              · have HF : Hid (isFig y = true) := by
                  show _ = _
                  have := unhide HBy
                  unfold isFig
                  simp
                  omega
                have CM := hide (fun w => commas_any y (by omega) w)
                have HKL : Hid (∀ K, keepM y = some K → K.length ≤ 1000) := fun K h => by have := keep_len h; omega
                have HP2 : Hid (deedM (x :: r) = (match keepM y with | none => none | some K => deedOf true a0 a1 a2 K q)) := by show _ = _; rw [unhide HDP, pow_fig (unhide HF)]
                have hx1 : (1 : Int) ≤ ((m : Int) + 1) := by omega
                generalize keepM y = ko at CM HKL HP2
                cases ko with
                | none =>
                  go_wp2_with fail
                  refine (unhide CM _).mono ?_
                  rintro e w5 ⟨⟨v5, rfl, _⟩, hb5⟩
                  have d5 := d4.below hb5
                  have r5 := r4.below hb5
                  have b5 := b4.trans (hb5.mono b4.size)
                  have e0 : w5.cell? ⟨w.heap.size + 1, 0, none⟩ = some (.string ⟨#[]⟩) := d5.cell 0 _ rfl
                  have e1 : w5.cell? ⟨w.heap.size + 1, 1, none⟩ = some (.bool true) := d5.cell 1 _ rfl
                  have e2 : w5.cell? ⟨w.heap.size + 1, 2, none⟩ = some (.int .i64 a0) := d5.cell 2 _ rfl
                  have e3 : w5.cell? ⟨w.heap.size + 1, 3, none⟩ = some (.slice none 0 0) := d5.cell 3 _ rfl
                  have e4 : w5.cell? ⟨w.heap.size + 1, 4, none⟩ = some (.int .i64 a1) := d5.cell 4 _ rfl
                  have e5 : w5.cell? ⟨w.heap.size + 1, 5, none⟩ = some (.int .i64 a2) := d5.cell 5 _ rfl
                  have z0 : w5.cell? ⟨w.heap.size, 0, none⟩ = some (.string ⟨#[]⟩) := r5.cell 0 _ rfl
                  have z1 : w5.cell? ⟨w.heap.size, 1, none⟩ = some (.bool false) := r5.cell 1 _ rfl
                  have z2 : w5.cell? ⟨w.heap.size, 2, none⟩ = some (.int .i64 0) := r5.cell 2 _ rfl
                  have z3 : w5.cell? ⟨w.heap.size, 3, none⟩ = some (.slice none 0 0) := r5.cell 3 _ rfl
                  have z4 : w5.cell? ⟨w.heap.size, 4, none⟩ = some (.int .i64 0) := r5.cell 4 _ rfl
                  have z5 : w5.cell? ⟨w.heap.size, 5, none⟩ = some (.int .i64 0) := r5.cell 5 _ rfl
                  have zf := r5.froz
                  have HR := hide ((((((r5.set 0 (.string ⟨#[]⟩)).set 1 (.bool true)).set 2 (.int .i64 a0)).set 3 (.slice none 0 0)).set 4 (.int .i64 a1)).set 5 (.int .i64 a2))
                  have HB9 := hide ((((((b5.setCell (p := ⟨w.heap.size, 0, none⟩) (Nat.le_refl _) (.string ⟨#[]⟩)).setCell (p := ⟨w.heap.size, 1, none⟩) (Nat.le_refl _) (.bool true)).setCell (p := ⟨w.heap.size, 2, none⟩) (Nat.le_refl _) (.int .i64 a0)).setCell (p := ⟨w.heap.size, 3, none⟩) (Nat.le_refl _) (.slice none 0 0)).setCell (p := ⟨w.heap.size, 4, none⟩) (Nat.le_refl _) (.int .i64 a1)).setCell (p := ⟨w.heap.size, 5, none⟩) (Nat.le_refl _) (.int .i64 a2))
                  clear r5 d5 b5 hb5 r4 d4 b4
                  go_wp2_with fail
                  (try simp only [Exit.inBlock, Exit.then])
                  refine bodyPost_ret (results_deed2 Tryz.results13 _ _ w.heap.size _ _ _ _ _ _ rfl (unhide HR)) rfl ?_
                  exact ⟨dd_none ⟨⟨#[]⟩, true, a0, a1, a2⟩ (unhide HP2), unhide HB9⟩
                | some K =>
                  have hK := unhide HKL K rfl
                  go_wp2_with fail
                  refine (unhide CM _).mono ?_
                  rintro e w5 ⟨⟨v5, rfl, ho5⟩, hb5⟩
                  obtain ⟨ka, kc, hv5, _⟩ := Gr.intsAt_of_own ho5
                  subst hv5
                  have hz4 := d4.lt
                  have d5 := d4.below hb5
                  have r5 := r4.below hb5
                  have b5 := b4.trans (hb5.mono b4.size)
                  have e3 : w5.cell? ⟨w.heap.size + 1, 3, none⟩ = some (.slice none 0 0) := d5.cell 3 _ rfl
                  have ef := d5.froz 3
                  have k6 : Kept (fun k => k = w.heap.size + 1) w5 (w5.setCell ⟨w.heap.size + 1, 3, none⟩ (.slice ka K.length kc)) := Kept.set (S := fun k => k = w.heap.size + 1) _ _ _ _ rfl
                  have HO6 : Hid (InOwn (w5.setCell ⟨w.heap.size + 1, 3, none⟩ (.slice ka K.length kc)) (w.heap.size + 1 + 1) (.slice ka K.length kc) K) := Gr.InOwn.lower (B := W4.heap.size) (Gr.InOwn.kept (show InOwn w5 W4.heap.size (.slice ka K.length kc) K from ho5) k6 (fun g hg e => by have := (Gr.InOwn.blk (show InOwn w5 W4.heap.size (.slice ka K.length kc) K from ho5) g hg).1; omega)) (by omega)
                  have HD6 : Hid (Blk (w5.setCell ⟨w.heap.size + 1, 3, none⟩ (.slice ka K.length kc)) (w.heap.size + 1) (dCells ⟨#[]⟩ true a0 (.slice ka K.length kc) a1 a2) 46) := d5.set 3 _
                  have HB6S := hide (show w.heap.size ≤ w5.heap.size from b5.size)
                  have HR6 := hide (r5.kept k6 (by omega))
                  have HB6 := hide (b5.trans (k6.below b5.size (fun i hi => by omega)))
                  have HT7 := hide (((unhide HT6).below (hb5.mono (show W4.heap.size ≤ W4.heap.size from Nat.le_refl _)) (Nat.le_trans hB b4.size)).below (k6.below (B := w.heap.size) (unhide HB6S) (fun i hi => by omega)) hB)
                  clear d5 r5 b5 ho5 hb5 d4 r4 b4 k6
                  by_cases hc5 : c = 5
                  · obtain rfl : m = 0 := by omega
                    have hq0 : q = [] := List.eq_nil_of_length_eq_zero (unhide HQ)
                    subst hc5
                    go_wp2_with fail
                    go_meet
                    case rel => exact ⟨_, _, q, true, a0, a1, a2, ka, kc, K, by rw [hq0]; rfl, by rw [hq0]; simp, by rw [hq0]; exact txAt.nil _ _ _, unhide HR6, unhide HD6, unhide HO6, hK, unhide HB6, unhide HP2⟩
                  · have hc51 : ¬ c - 4 = 1 := by omega
                    go_wp2_with fail
                    go_meet
                    case rel => exact ⟨_, _, q, true, a0, a1, a2, ka, kc, K, by rw [unhide HQ], by rw [unhide HQ]; omega, unhide HT7, unhide HR6, unhide HD6, unhide HO6, hK, unhide HB6, unhide HP2⟩
              · have HF : Hid (isFig y = false) := by
                  show _ = _
                  have := unhide HBy
                  unfold isFig
                  simp
                  omega
                go_wp2_with fail
                go_meet
                case rel => exact ⟨_, _, y :: q, true, a0, a1, a2, none, 0, [], by rw [List.length_cons, unhide HQ], by rw [List.length_cons, unhide HQ]; omega, unhide HT5, r4, d4, in_nil _ _, by simp, b4, by rw [unhide HDP, pow_word (unhide HF)]⟩
            · have HF : Hid (isFig y = false) := by
                show _ = _
                have := unhide HBy
                unfold isFig
                simp
                omega
              go_wp2_with fail
              go_meet
              case rel => exact ⟨_, _, y :: q, true, a0, a1, a2, none, 0, [], by rw [List.length_cons, unhide HQ], by rw [List.length_cons, unhide HQ]; omega, unhide HT5, r4, d4, in_nil _ _, by simp, b4, by rw [unhide HDP, pow_word (unhide HF)]⟩
  case rest =>
    obtain ⟨a, c', q, cu, s, o, pp, ka, kc, K, rfl, hq8, hT, hR, hD, hO, hK, hb, hDM⟩ := unhide hcut
    have AS := hide (specAsk a c' B q hq8 wc (Nat.le_trans hB hb.size) hT)
    have HTS : Hid (∀ T, textM q = some T → T.size ≤ 10000) := fun T h => text_size h
    have HN0 : Hid (textM q = none → deedM (x :: r) = none) := fun h => by rw [hDM]; exact deedOf_none h
    have HN1 : Hid (∀ T, textM q = some T → deedM (x :: r) = if deedOk ⟨T, cu, s, o, pp⟩ K = true then some (⟨T, cu, s, o, pp⟩, K) else none) := fun T h => by rw [hDM]; exact deedOf_some h
    clear hcut HTX r0 d0 bV hT hDM hq8
    generalize textM q = ot at AS HTS HN0 HN1
    go_wp2_with fail
    refine (unhide AS).mono ?_
    rintro e w1 ⟨he, hb1⟩
    unfold TextPost at he
    subst he
    have hz1 := hD.lt
    have d1 := hD.below hb1
    have r1 := hR.below hb1
    have o1 := hO.below hb1
    have b1 := hb.trans (hb1.mono hb.size)
    have e0 : w1.cell? ⟨w.heap.size + 1, 0, none⟩ = some (.string ⟨#[]⟩) := d1.cell 0 _ rfl
    have ef := d1.froz 0
    obtain ⟨T, hTe⟩ : ∃ T, T = ot.getD ⟨#[]⟩ := ⟨_, rfl⟩
    rw [← hTe]
    have HTe := hide hTe
    clear hTe
    obtain ⟨W2, hW2⟩ : ∃ W, W = w1.setCell ⟨w.heap.size + 1, 0, none⟩ (.string T) := ⟨_, rfl⟩
    have k2 : Kept (fun k => k = w.heap.size + 1) w1 W2 := by rw [hW2]; exact Kept.set (S := fun k => k = w.heap.size + 1) _ _ _ _ rfl
    have d2 : Blk W2 (w.heap.size + 1) (dCells T cu s (.slice ka K.length kc) o pp) 46 := by rw [hW2]; exact d1.set 0 _
    have r2 := r1.kept k2 (by omega)
    have o2 := o1.kept k2 (fun g hg e => by have := (o1.blk g hg).1; omega)
    have b2 := b1.trans (k2.below b1.size (fun i hi => by omega))
    clear hD hR hO hb hb1 d1 r1 o1 b1 k2 AS
    go_upto_region 26 with fail
    rw [← hW2]
    clear hW2 e0 ef
    have hne : w.heap.size + 1 ≠ w.heap.size := by omega
    have hne1 : ¬ w.heap.size + 1 = w.heap.size := hne
    have hne2 : ¬ w.heap.size = w.heap.size + 1 := by omega
    have k0 : W2.cell? ⟨w.heap.size + 1, 0, none⟩ = some (.string T) := d2.cell 0 _ rfl
    have k1 : W2.cell? ⟨w.heap.size + 1, 1, none⟩ = some (.bool cu) := d2.cell 1 _ rfl
    have k2 : W2.cell? ⟨w.heap.size + 1, 2, none⟩ = some (.int .i64 s) := d2.cell 2 _ rfl
    have k3 : W2.cell? ⟨w.heap.size + 1, 3, none⟩ = some (.slice ka K.length kc) := d2.cell 3 _ rfl
    have k4 : W2.cell? ⟨w.heap.size + 1, 4, none⟩ = some (.int .i64 o) := d2.cell 4 _ rfl
    have k5 : W2.cell? ⟨w.heap.size + 1, 5, none⟩ = some (.int .i64 pp) := d2.cell 5 _ rfl
    have z0 : W2.cell? ⟨w.heap.size, 0, none⟩ = some (.string ⟨#[]⟩) := r2.cell 0 _ rfl
    have z1 : W2.cell? ⟨w.heap.size, 1, none⟩ = some (.bool false) := r2.cell 1 _ rfl
    have z2 : W2.cell? ⟨w.heap.size, 2, none⟩ = some (.int .i64 0) := r2.cell 2 _ rfl
    have z3 : W2.cell? ⟨w.heap.size, 3, none⟩ = some (.slice none 0 0) := r2.cell 3 _ rfl
    have z4 : W2.cell? ⟨w.heap.size, 4, none⟩ = some (.int .i64 0) := r2.cell 4 _ rfl
    have z5 : W2.cell? ⟨w.heap.size, 5, none⟩ = some (.int .i64 0) := r2.cell 5 _ rfl
    have zf := r2.froz
    have zk := d2.lt
    have zr := r2.lt
    have HR2 : Hid (Blk W2 w.heap.size #[.string ⟨#[]⟩, .bool false, .int .i64 0, .slice none 0 0, .int .i64 0, .int .i64 0] 46) := r2
    have HD2 : Hid (Blk W2 (w.heap.size + 1) #[.string T, .bool cu, .int .i64 s, .slice ka K.length kc, .int .i64 o, .int .i64 pp] 46) := d2
    have fin : ∀ (W : World) (vT : ByteArray), Blk W w.heap.size (dCells ⟨#[]⟩ false 0 (.slice none 0 0) 0 0) 46 → Below w.heap.size w W → InOwn W (w.heap.size + 1 + 1) (.slice ka K.length kc) K →
        Blk ((((((W.setCell ⟨w.heap.size, 0, none⟩ (.string vT)).setCell ⟨w.heap.size, 1, none⟩ (.bool cu)).setCell ⟨w.heap.size, 2, none⟩ (.int .i64 s)).setCell ⟨w.heap.size, 3, none⟩ (.slice ka K.length kc)).setCell ⟨w.heap.size, 4, none⟩ (.int .i64 o)).setCell ⟨w.heap.size, 5, none⟩ (.int .i64 pp)) w.heap.size #[.string vT, .bool cu, .int .i64 s, .slice ka K.length kc, .int .i64 o, .int .i64 pp] 46 ∧
        Below w.heap.size w ((((((W.setCell ⟨w.heap.size, 0, none⟩ (.string vT)).setCell ⟨w.heap.size, 1, none⟩ (.bool cu)).setCell ⟨w.heap.size, 2, none⟩ (.int .i64 s)).setCell ⟨w.heap.size, 3, none⟩ (.slice ka K.length kc)).setCell ⟨w.heap.size, 4, none⟩ (.int .i64 o)).setCell ⟨w.heap.size, 5, none⟩ (.int .i64 pp)) ∧
        InOwn ((((((W.setCell ⟨w.heap.size, 0, none⟩ (.string vT)).setCell ⟨w.heap.size, 1, none⟩ (.bool cu)).setCell ⟨w.heap.size, 2, none⟩ (.int .i64 s)).setCell ⟨w.heap.size, 3, none⟩ (.slice ka K.length kc)).setCell ⟨w.heap.size, 4, none⟩ (.int .i64 o)).setCell ⟨w.heap.size, 5, none⟩ (.int .i64 pp)) w.heap.size (.slice ka K.length kc) K := fun W vT hR hb hO => by
      refine ⟨(((((hR.set 0 _).set 1 _).set 2 _).set 3 _).set 4 _).set 5 _, (((((hb.setCell (p := ⟨w.heap.size, 0, none⟩) (Nat.le_refl _) _).setCell (p := ⟨w.heap.size, 1, none⟩) (Nat.le_refl _) _).setCell (p := ⟨w.heap.size, 2, none⟩) (Nat.le_refl _) _).setCell (p := ⟨w.heap.size, 3, none⟩) (Nat.le_refl _) _).setCell (p := ⟨w.heap.size, 4, none⟩) (Nat.le_refl _) _).setCell (p := ⟨w.heap.size, 5, none⟩) (Nat.le_refl _) _, ?_⟩
      refine Gr.InOwn.lower (B := w.heap.size + 1 + 1) (Gr.InOwn.kept (S := fun k => k = w.heap.size) hO ?_ (fun g hg e => by have := (hO.blk g hg).1; omega)) (by omega)
      have ks : ∀ (W' : World) (j : Nat) (v : Value), Kept (fun k => k = w.heap.size) W' (W'.setCell ⟨w.heap.size, j, none⟩ v) := fun W' j v => Kept.set (S := fun k => k = w.heap.size) W' w.heap.size j v rfl
      exact (((((ks _ _ _).trans (ks _ _ _)).trans (ks _ _ _)).trans (ks _ _ _)).trans (ks _ _ _)).trans (ks _ _ _)
    have HF := hide fin
    clear fin
    cases ot with
    | none =>
      have hT0 : T = ⟨#[]⟩ := unhide HTe
      subst hT0
      have HDN := hide (unhide HN0 rfl)
      have HE := hide (unhide HF W2 ⟨#[]⟩ r2 b2 o2)
      clear r2 d2 o2 b2 HTe HN0 HN1 HTS HF
      go_region
      all_goals
        go_wp2_with fail
        (try simp only [Exit.inBlock, Exit.then])
        refine bodyPost_ret (results_deed2 Tryz.results13 _ _ w.heap.size _ _ _ _ _ _ rfl (unhide HE).1.drew) rfl ?_
        exact ⟨dd_none ⟨⟨#[]⟩, cu, s, o, pp⟩ (unhide HDN), (unhide HE).2.1.drew⟩
    | some T' =>
      have hT0 : T = T' := unhide HTe
      subst hT0
      have hTs := unhide HTS T rfl
      have OK := hide (fun W (hb : Below W2.heap.size W2 W) => Gr.specDeed_gen W2.heap.size (.agg #[.string T, .bool cu, .int .i64 s, .slice ka K.length kc, .int .i64 o, .int .i64 pp]) ⟨T, cu, s, o, pp⟩ K (by unfold dsize; simp only; omega) W hb.size (DeAt.below (C := W2.heap.size) ⟨ka, kc, rfl, o2.at, by simp only; omega, by omega⟩ hb (Nat.le_refl _)))
      have HDN := hide (unhide HN1 T rfl)
      generalize deedOk ⟨T, cu, s, o, pp⟩ K = ok at OK HDN
      have HE := hide (fun W (hb : Below W2.heap.size W2 W) => unhide HF W T (r2.below hb) (b2.trans (hb.mono b2.size)) (o2.below hb))
      clear HTe HN0 HN1 HTS HF r2 d2 o2 b2 hTs
      go_region_held3 (fun u => u.cell? ⟨w.heap.size + 1, 0, none⟩ = some (.string T) ∧ u.cell? ⟨w.heap.size + 1, 1, none⟩ = some (.bool cu) ∧ u.cell? ⟨w.heap.size + 1, 2, none⟩ = some (.int .i64 s) ∧ u.cell? ⟨w.heap.size + 1, 3, none⟩ = some (.slice ka K.length kc) ∧ u.cell? ⟨w.heap.size + 1, 4, none⟩ = some (.int .i64 o) ∧ u.cell? ⟨w.heap.size + 1, 5, none⟩ = some (.int .i64 pp))
        (first | go_keep | with_reducible exact ⟨j0, j1, j2, j3, j4, j5⟩ | with_reducible exact ⟨i0, i1, i2, i3, i4, i5⟩)
        (first | (go_at_call 25; refine (unhide OK _ (Below.refl _ _).drew).mono ?_; rintro e w7 ⟨rfl, hb7⟩; have m7 := (unhide HR2).drew.below hb7; have q0 := m7.cell 0 _ rfl; have q1 := m7.cell 1 _ rfl; have q2 := m7.cell 2 _ rfl; have q3 := m7.cell 3 _ rfl; have q4 := m7.cell 4 _ rfl; have q5 := m7.cell 5 _ rfl; have f0 := m7.froz 0; have f1 := m7.froz 1; have f2 := m7.froz 2; have f3 := m7.froz 3; have f4 := m7.froz 4; have f5 := m7.froz 5; have j0 := (hb7.cell (p := ⟨w.heap.size + 1, 0, none⟩) zk).trans k0; have j1 := (hb7.cell (p := ⟨w.heap.size + 1, 1, none⟩) zk).trans k1; have j2 := (hb7.cell (p := ⟨w.heap.size + 1, 2, none⟩) zk).trans k2; have j3 := (hb7.cell (p := ⟨w.heap.size + 1, 3, none⟩) zk).trans k3; have j4 := (hb7.cell (p := ⟨w.heap.size + 1, 4, none⟩) zk).trans k4; have j5 := (hb7.cell (p := ⟨w.heap.size + 1, 5, none⟩) zk).trans k5; have x8 := (((((((unhide HD2).drew.below hb7).set_other hne 0 (.string T)).set_other hne 1 (.bool cu)).set_other hne 2 (.int .i64 s)).set_other hne 3 (.slice ka K.length kc)).set_other hne 4 (.int .i64 o)).set_other hne 5 (.int .i64 pp); have i0 := x8.cell 0 _ rfl; have i1 := x8.cell 1 _ rfl; have i2 := x8.cell 2 _ rfl; have i3 := x8.cell 3 _ rfl; have i4 := x8.cell 4 _ rfl; have i5 := x8.cell 5 _ rfl))
      have hE := unhide HE w7 ((Below.refl _ _).drew.trans hb7)
      clear m7 x8 q0 q1 q2 q3 q4 q5 f0 f1 f2 f3 f4 f5 i0 i1 i2 i3 i4 i5 j0 j1 j2 j3 j4 j5 k0 k1 k2 k3 k4 k5 z0 z1 z2 z3 z4 z5 zf
      go_wp2_with fail
      (try simp only [Exit.inBlock, Exit.then])
      refine bodyPost_ret (results_deed2 Tryz.results13 _ _ w.heap.size _ _ _ _ _ _ rfl hE.1) rfl ?_
      refine ⟨?_, hE.2.1⟩
      have eD := unhide HDN
      cases ok with
      | false => exact dd_none ⟨T, cu, s, o, pp⟩ (by rw [eD]; rfl)
      | true =>
        rw [if_pos rfl] at eD
        refine ⟨⟨T, cu, s, o, pp⟩, ka, K.length, kc, by rw [eD]; rfl, fun y hy => ?_⟩
        rw [eD] at hy
        cases hy
        exact ⟨rfl, rfl, hE.2.2⟩

end Sc
end Go.Proofs.YtjhnippfepbjmaaGreatDoor
