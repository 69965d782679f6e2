/-
  Texts of this claim, one behind the other: Si3, Si4, Si5.
-/
import Derived.Test.YtjhnippfepbjmaaGreatDoorJ40
import Derived.Laws.EntriesVeiled
import Derived.BigQuiet

/-
  The program's commands: the function that an ask's command holds, impl.askCommand, commands.
-/
namespace Go.Proofs.YtjhnippfepbjmaaGreatDoor
namespace Sc
open Go.RowKit
open Gr (own_below own_lower InOwn InAt AskI askN askR askT askOk askOf padL Blk Kept below_new)

theorem pad_cells (op : Int) {L : List Int} (h : L.length ≤ 5) : ∃ y0 y1 y2 y3 y4, padL L = [y0, y1, y2, y3, y4] ∧ askOf op L = ⟨op, y0, y1, y2, y3, y4⟩ := by
  have hl := pad_len h
  obtain ⟨y0, y1, y2, y3, y4, e⟩ : ∃ y0 y1 y2 y3 y4, padL L = [y0, y1, y2, y3, y4] := by
    match padL L, hl with
    | [a, b, c, d, e], _ => exact ⟨a, b, c, d, e, rfl⟩
  refine ⟨y0, y1, y2, y3, y4, e, ?_⟩
  unfold askOf
  rw [e]
  rfl

/-- An ask's variable with the first numbers laid. -/
def askC (op : Int) (L : List Int) : Array Value := (Value.int .i64 op :: Gr.intsV (padL L)).toArray

theorem askC_set {op : Int} {done : List Int} {x : Int} (h : done.length < 5) : (askC op done).setIfInBounds (done.length + 1) (.int .i64 x) = askC op (done ++ [x]) := by
  unfold askC
  rw [← pad_set h]
  simp

theorem askC_cells {op : Int} {L : List Int} {y0 y1 y2 y3 y4 : Int} (h : padL L = [y0, y1, y2, y3, y4]) : askC op L = #[.int .i64 op, .int .i64 y0, .int .i64 y1, .int .i64 y2, .int .i64 y3, .int .i64 y4] := by
  unfold askC
  rw [h]
  rfl

set_option maxRecDepth 100000 in
set_option maxHeartbeats 4000000 in
theorem implAskFn (op : Int) (ho : 1 ≤ op ∧ op ≤ 6) (g : Nat) (a : Option Addr) (c B T : Nat) (L : List ByteArray) (hL : L.length ≤ 100) (w : World) (hB : B ≤ w.heap.size) (h : txAt w a B L) (hT : T ≤ w.heap.size) (ht : Tb T w) (hg : Blk w g #[.int .i64 op] 3) :
    Calls Tryz.prog 99 #[.slice a L.length c, .pointer (some ⟨g, 0, none⟩)] w fun e w' => TextPost e (askM op L) ∧ Below w.heap.size w w' := by
  have hgl := hg.lt
  obtain ⟨V, hV⟩ : ∃ W, W = w.alloc (Obj.cells #[.int .i64 op, .int .i64 0, .int .i64 0, .int .i64 0, .int .i64 0, .int .i64 0] 75) := ⟨_, rfl⟩
  have bV : Below w.heap.size w V := by rw [hV]; exact below_new _ _
  have x0 : Blk V w.heap.size (askC op []) 75 := by rw [hV]; exact Blk.new0
  have g0 : w.cell? ⟨g, 0, none⟩ = some (.int .i64 op) := hg.cell 0 _ rfl
  have hzV := x0.lt
  have NR := hide (implNumbers a c B T L (by omega) V (Nat.le_trans hB bV.size) (h.below bV hB) (Nat.le_trans hT bV.size) (ht.below bV hT))
  have TD := hide (fun w => Gr.told_is op w)
  have PL := hide (fun g w => Gr.places_any g w)
  have hA : askM op L = if L.length = askN op then (match numsM L with | none => none | some ns => askR (askOf op ns)) else none := by
    by_cases hl : L.length = askN op
    · rw [if_pos hl, askM_yes (by omega) hl]
      cases numsM L <;> rfl
    · rw [if_neg hl, askM_len (by omega) hl]
  have hNl := askN_le' op
  obtain ⟨R, hR⟩ : ∃ R, R = askM op L := ⟨_, rfl⟩
  rw [← hR] at hA ⊢
  have HA := hide hA
  have hln : ∀ ns, numsM L = some ns → ns.length = L.length := fun ns h => numsM_length h
  have HLN := hide hln
  have HG := hide hg
  generalize numsM L = no at NR HA HLN
  generalize askN op = k at TD HA hNl
  generalize L.length = n at NR HA HLN hL ⊢
  clear hA hR hln h ht hg
  go_enter Tryz.func99, Tryz.ntmps99
  go_wp2_with fail
  rw [← hV]
  clear hV
  refine (unhide NR).mono ?_
  rintro e w1 ⟨⟨v1, rfl, ho1⟩, hb1⟩
  have b1 := bV.trans (hb1.mono bV.size)
  have x1 := x0.below hb1
  have g1 : w1.cell? ⟨g, 0, none⟩ = some (.int .i64 op) := ((unhide HG).below b1).cell 0 _ rfl
  obtain ⟨av, cv, hv1, _⟩ := Gr.intsAt_of_own ho1
  subst hv1
  have hzx := x1.lt
  clear NR x0 hb1 g0
  go_wp2_with fail
  refine (unhide TD w1).mono ?_
  rintro e w2 ⟨rfl, rfl⟩
  cases no with
  | none =>
    have HE : Hid (R = none) := by show _ = _; rw [unhide HA]; split <;> rfl
    clear ho1 x1 g1
    go_wp2
    go_ret2
    rw [unhide HE]
    exact ⟨rfl, b1⟩
  | some ns =>
    have hnl := unhide HLN ns rfl
    simp only [Option.getD_some, Option.isSome_some] at ho1 ⊢
    by_cases hk : n = k
    · subst hk
      have HE : Hid (R = askR (askOf op ns)) := by show _ = _; rw [unhide HA, if_pos rfl]
      rw [hnl] at ho1 ⊢
      have HNL := hide hnl
      have hq : ((n : Int) != (n : Int)) = false := by simp
      clear hnl g1
      go_wp2_with fail
      refine (unhide PL w.heap.size w2).mono ?_
      rintro e w3 ⟨⟨p, rfl, hp, hP⟩, hb3⟩
      have x3 := x1.below hb3
      have o3 := own_below ho1 hb3
      have b3 := b1.trans (hb3.mono b1.size)
      have hpl := hP.lt
      clear x1 ho1 b1 hb3
      have hn5 : (n : Int) ≤ 5 := by omega
      go_wp2_with fail
      have hVl : w.heap.size < V.heap.size := hzV
      have hT0 : ns.take 0 = [] := rfl
      go_loopw [36] (fun ai wr => ∃ i : Nat, ai = .int .i64 (i : Int) ∧ i ≤ n ∧ Blk wr w.heap.size (askC op (ns.take i)) 75 ∧ Blk wr p (Gr.plC w.heap.size) 165 ∧ wr.ownsRow V.heap.size 3 1 (.slice av n cv) n (Gr.intsV ns) ∧ Below w.heap.size w wr) (fun ai _ => n - (intOf ai).toNat)
      case atStart => exact ⟨0, rfl, Nat.zero_le _, x3, hP, o3, b3⟩
      case round =>
        obtain ⟨i, rfl, hi, hx, hPr, hown, hb⟩ := hrel
        by_cases hlt : i < n
        · have hin : i < ns.length := by rw [unhide HNL]; exact hlt
          obtain ⟨gq, cq, hA, hgq, hgl2⟩ := hown.form (by omega)
          simp only [Value.slice.injEq, true_and] at hA
          obtain ⟨rfl, rfl⟩ := hA
          have cn : wr.cell? ⟨gq, i, none⟩ = some (.int .i64 ns[i]) := by
            rw [hown.cellAt i (by omega)]
            simp [Gr.intsV, hin]
          have cp : wr.cell? ⟨p, i, none⟩ = some (.pointer (some ⟨w.heap.size, i + 1, none⟩)) := hPr.cell i _ (by
            have : i < 5 := by omega
            match i, this with
            | 0, _ => rfl
            | 1, _ => rfl
            | 2, _ => rfl
            | 3, _ => rfl
            | 4, _ => rfl)
          have hzx2 := hx.lt
          have cx : ∃ u, wr.cell? ⟨w.heap.size, i + 1, none⟩ = some (.int .i64 u) := by
            have hpl5 : (padL (ns.take i)).length = 5 := pad_len (by rw [List.length_take]; omega)
            exact ⟨(padL (ns.take i))[i]'(by omega), hx.cell (i + 1) _ (by unfold askC; simp [Gr.intsV])⟩
          obtain ⟨u, cx⟩ := cx
          have fx := hx.froz (i + 1)
          have hx2 : Blk (wr.setCell ⟨w.heap.size, i + 1, none⟩ (.int .i64 ns[i])) w.heap.size (askC op (ns.take (i + 1))) 75 := by
            have h1 := hx.set (i + 1) (.int .i64 ns[i])
            have h2 : (ns.take i).length = i := by rw [List.length_take]; omega
            have h3 := askC_set (op := op) (done := ns.take i) (x := ns[i]) (by omega)
            rw [h2] at h3
            rw [h3, ← List.take_succ_eq_append_getElem hin] at h1
            exact h1
          have ks : Kept (fun k => k = w.heap.size) wr (wr.setCell ⟨w.heap.size, i + 1, none⟩ (.int .i64 ns[i])) := Kept.set (S := fun k => k = w.heap.size) _ _ _ _ rfl
          have hP2 := hPr.kept ks (by omega)
          have hown2 := ks.own hown (fun k hk e => by have := hown.lt k hk; omega)
          have hb2 : Below w.heap.size w (wr.setCell ⟨w.heap.size, i + 1, none⟩ (.int .i64 ns[i])) := hb.setCell (p := ⟨w.heap.size, i + 1, none⟩) (Nat.le_refl _) _
          have HX2 := hide hx2
          have HP2 := hide hP2
          have HO2 := hide hown2
          have hx0 : (0 : Int) ≤ (i : Int) := by omega
          have hx1 : (i : Int) < (n : Int) := by omega
          generalize ns[i] = y at cn HX2 HP2 HO2 hb2
          clear hx hPr hown hx2 hP2 hown2 ks
          go_wp2
          go_roundw
          case rel => exact ⟨i + 1, by go_num, by omega, unhide HX2, unhide HP2, unhide HO2, hb2⟩
          case measure => simp [intOf]; omega
        · obtain rfl : i = n := by omega
          have hta : ns.take i = ns := List.take_of_length_le (by rw [unhide HNL]; exact Nat.le_refl _)
          rw [hta] at hx
          obtain ⟨y0, y1, y2, y3, y4, hy1, hy2⟩ := pad_cells op (L := ns) (by rw [unhide HNL]; omega)
          rw [askC_cells hy1] at hx
          have AT := hide (Gr.implAskText_any (askOf op ns) wr)
          have HE2 : Hid (askT (askOf op ns) = R.getD ⟨#[]⟩ ∧ askOk (askOf op ns) = R.isSome) := by
            show _ ∧ _
            rw [unhide HE]
            exact ⟨rfl, rfl⟩
          rw [(unhide HE2).1, (unhide HE2).2, hy2] at AT
          change Hid (Calls _ _ #[.agg #[.int .i64 op, .int .i64 y0, .int .i64 y1, .int .i64 y2, .int .i64 y3, .int .i64 y4]] wr _) at AT
          have c0 : wr.cell? ⟨w.heap.size, 0, none⟩ = some (.int .i64 op) := hx.cell 0 _ rfl
          have c1 : wr.cell? ⟨w.heap.size, 1, none⟩ = some (.int .i64 y0) := hx.cell 1 _ rfl
          have c2 : wr.cell? ⟨w.heap.size, 2, none⟩ = some (.int .i64 y1) := hx.cell 2 _ rfl
          have c3 : wr.cell? ⟨w.heap.size, 3, none⟩ = some (.int .i64 y2) := hx.cell 3 _ rfl
          have c4 : wr.cell? ⟨w.heap.size, 4, none⟩ = some (.int .i64 y3) := hx.cell 4 _ rfl
          have c5 : wr.cell? ⟨w.heap.size, 5, none⟩ = some (.int .i64 y4) := hx.cell 5 _ rfl
          clear hx hPr hown hta HE2 hy1 hy2
          go_wp2_with fail
          refine (unhide AT).mono ?_
          rintro e w5 ⟨rfl, hb5⟩
          have b5 := hb.trans (hb5.mono hb.size)
          clear c0 c1 c2 c3 c4 c5 hb5
          go_wp2
          go_ret2
          exact ⟨rfl, b5⟩
    · have HE : Hid (R = none) := by show _ = _; rw [unhide HA, if_neg hk]
      have hq : ((n : Int) != (k : Int)) = true := by rw [bne_iff_ne]; omega
      rw [hnl] at ho1 ⊢
      clear ho1 x1 g1 hnl
      go_wp2
      go_ret2
      rw [unhide HE]
      exact ⟨rfl, b1⟩

theorem results_cmd {fn : Func} {p : Tmp} (h : fn.results = #[.cell p 105]) (tmps : Array Value) (w : World) (g : Nat) (x0 x1 : Value) (hp : tmps.getD p undef = .pointer (some ⟨g, 0, none⟩)) (hg : Blk w g #[x0, x1] 105) :
    (results fn tmps).run Tryz.prog w = .ok (.agg #[x0, x1]) w := by
  have c0 := hg.cell 0 x0 rfl
  have c1 := hg.cell 1 x1 rfl
  have hp' : tmps[p]?.getD undef = .pointer (some ⟨g, 0, none⟩) := by simpa using hp
  simp [results, h, hp', go_sem, c0, c1]

def fnV (g : Nat) : Value := .func (.func 99) #[] #[.pointer (some ⟨g, 0, none⟩)]

set_option maxRecDepth 100000 in
theorem implAskCmd (x : ByteArray) (op : Int) (w : World) :
    Calls Tryz.prog 86 #[.string x, .int .i64 op] w fun e w' => (∃ g, e = .returned (.agg #[.string x, fnV g]) ∧ Blk w' g #[.int .i64 op] 3) ∧ Below w.heap.size w w' := by
  have hmf : ∀ (fn : Fn) (first cap : Array Value) (w : World), (Instr.makeFunc fn first cap).run Tryz.prog w = .ok (.func fn first cap) w := fun _ _ _ _ => rfl
  go_enter Tryz.func86, Tryz.ntmps86
  obtain ⟨V, hV⟩ : ∃ W, W = (w.alloc (Obj.cells #[.int .i64 op] 3)).alloc (Obj.cells #[.string x, fnV w.heap.size] 105) := ⟨_, rfl⟩
  have b1 : Below w.heap.size w V := by rw [hV]; exact (below_new _ _).alloc (by simp) _
  have g1 : Blk V w.heap.size #[.int .i64 op] 3 := by rw [hV]; exact Blk.new0.alloc
  have m1 : Blk V (w.heap.size + 1) #[.string x, fnV w.heap.size] 105 := by rw [hV]; exact Blk.new1
  unfold fnV at hV m1 ⊢
  go_wp2_with fail
  (try simp only [Exit.inBlock, Exit.then])
  rw [← hV]
  refine bodyPost_ret (results_cmd Tryz.results86 _ _ (w.heap.size + 1) _ _ rfl m1) rfl ?_
  exact ⟨⟨_, rfl, g1⟩, b1⟩

/-- The table of commands. -/
def cmdC (g1 g2 g3 g4 g5 g6 : Nat) : Array Value := #[.string ⟨#[106, 111, 105, 110]⟩, fnV g1, .string ⟨#[108, 105, 110, 107]⟩, fnV g2, .string ⟨#[108, 101, 97, 118, 101]⟩, fnV g3, .string ⟨#[99, 108, 101, 97, 114]⟩, fnV g4, .string ⟨#[97, 117, 100, 105, 116]⟩, fnV g5, .string ⟨#[115, 104, 111, 119]⟩, fnV g6, .string ⟨#[114, 97, 119]⟩, .func (.func 87) #[] #[]]

set_option maxRecDepth 100000 in
set_option maxHeartbeats 2000000 in
theorem implCommands (w : World) :
    Calls Tryz.prog 67 #[] w fun e w' => (∃ p g1 g2 g3 g4 g5 g6, e = .returned (.slice (some ⟨p, 0, none⟩) 7 7) ∧ Blk w' p (cmdC g1 g2 g3 g4 g5 g6) 105 ∧ Blk w' g1 #[.int .i64 1] 3 ∧ Blk w' g2 #[.int .i64 2] 3 ∧ Blk w' g3 #[.int .i64 3] 3 ∧ Blk w' g4 #[.int .i64 4] 3 ∧ Blk w' g5 #[.int .i64 5] 3 ∧ Blk w' g6 #[.int .i64 6] 3) ∧ Below w.heap.size w w' := by
  have AC := hide (fun x op w => implAskCmd x op w)
  go_enter Tryz.func67, Tryz.ntmps67
  go_wp2_with fail
  refine (unhide AC _ _ w).mono ?_
  rintro e w1 ⟨⟨g1, rfl, h1⟩, b1⟩
  unfold fnV
  go_wp2_with fail
  refine (unhide AC _ _ w1).mono ?_
  rintro e w2 ⟨⟨g2, rfl, h2⟩, hb2⟩
  have h1 := h1.below hb2
  have b2 := b1.trans (hb2.mono b1.size)
  clear hb2 b1
  unfold fnV
  go_wp2_with fail
  refine (unhide AC _ _ w2).mono ?_
  rintro e w3 ⟨⟨g3, rfl, h3⟩, hb3⟩
  have h1 := h1.below hb3
  have h2 := h2.below hb3
  have b3 := b2.trans (hb3.mono b2.size)
  clear hb3 b2
  unfold fnV
  go_wp2_with fail
  refine (unhide AC _ _ w3).mono ?_
  rintro e w4 ⟨⟨g4, rfl, h4⟩, hb4⟩
  have h1 := h1.below hb4
  have h2 := h2.below hb4
  have h3 := h3.below hb4
  have b4 := b3.trans (hb4.mono b3.size)
  clear hb4 b3
  unfold fnV
  go_wp2_with fail
  refine (unhide AC _ _ w4).mono ?_
  rintro e w5 ⟨⟨g5, rfl, h5⟩, hb5⟩
  have h1 := h1.below hb5
  have h2 := h2.below hb5
  have h3 := h3.below hb5
  have h4 := h4.below hb5
  have b5 := b4.trans (hb5.mono b4.size)
  clear hb5 b4
  unfold fnV
  go_wp2_with fail
  refine (unhide AC _ _ w5).mono ?_
  rintro e w6 ⟨⟨g6, rfl, h6⟩, hb6⟩
  have h1 := h1.below hb6
  have h2 := h2.below hb6
  have h3 := h3.below hb6
  have h4 := h4.below hb6
  have h5 := h5.below hb6
  have b6 := b5.trans (hb6.mono b5.size)
  clear hb6 b5
  unfold fnV
  obtain ⟨V, hV⟩ : ∃ W, W = w6.alloc (Obj.cells (cmdC g1 g2 g3 g4 g5 g6) 105) := ⟨_, rfl⟩
  have bV : Below w6.heap.size w6 V := by rw [hV]; exact below_new _ _
  have mV : Blk V w6.heap.size (cmdC g1 g2 g3 g4 g5 g6) 105 := by rw [hV]; exact Blk.new0
  have HH := hide (And.intro (h1.below bV) (And.intro (h2.below bV) (And.intro (h3.below bV) (And.intro (h4.below bV) (And.intro (h5.below bV) (h6.below bV))))))
  have b7 := b6.trans (bV.mono b6.size)
  have HM := hide mV
  clear h1 h2 h3 h4 h5 h6 b6 bV mV
  unfold cmdC fnV at hV
  go_wp2_with fail
  rw [← hV]
  go_ret
  exact ⟨⟨w6.heap.size, g1, g2, g3, g4, g5, g6, rfl, unhide HM, unhide HH⟩, b7⟩

end Sc
end Go.Proofs.YtjhnippfepbjmaaGreatDoor

/-
  impl.commandText: the text of what the parts of a line ask.
-/
namespace Go.Proofs.YtjhnippfepbjmaaGreatDoor
namespace Sc
open Go.RowKit
open Gr (own_below own_lower InOwn InAt Blk Kept below_new Grown wp_region_grown)

def wd : Nat → List UInt8
  | 0 => [106, 111, 105, 110]
  | 1 => [108, 105, 110, 107]
  | 2 => [108, 101, 97, 118, 101]
  | 3 => [99, 108, 101, 97, 114]
  | 4 => [97, 117, 100, 105, 116]
  | 5 => [115, 104, 111, 119]
  | 6 => [114, 97, 119]
  | _ => []

theorem op_at {x : ByteArray} (j : Nat) (hj : j < 6) (h : x.toList = wd j) : opW x = (j : Int) + 1 ∧ isRaw x = false := by
  match j, hj with
  | 0, _ => exact ⟨by unfold opW; rw [h]; rfl, by unfold isRaw; rw [h]; rfl⟩
  | 1, _ => exact ⟨by unfold opW; rw [h]; rfl, by unfold isRaw; rw [h]; rfl⟩
  | 2, _ => exact ⟨by unfold opW; rw [h]; rfl, by unfold isRaw; rw [h]; rfl⟩
  | 3, _ => exact ⟨by unfold opW; rw [h]; rfl, by unfold isRaw; rw [h]; rfl⟩
  | 4, _ => exact ⟨by unfold opW; rw [h]; rfl, by unfold isRaw; rw [h]; rfl⟩
  | 5, _ => exact ⟨by unfold opW; rw [h]; rfl, by unfold isRaw; rw [h]; rfl⟩

theorem op_raw {x : ByteArray} (h : x.toList = wd 6) : isRaw x = true := by unfold isRaw; rw [h]; rfl

theorem op_none {x : ByteArray} (h : ∀ j, j < 7 → x.toList ≠ wd j) : opW x = 0 ∧ isRaw x = false := by
  have e : ∀ j, j < 7 → (x.toList == wd j) = false := fun j hj => by rw [beq_eq_false_iff_ne]; exact h j hj
  refine ⟨?_, e 6 (by omega)⟩
  unfold opW
  rw [if_neg (by rw [show (x.toList == [106, 111, 105, 110]) = false from e 0 (by omega)]; simp), if_neg (by rw [show (x.toList == [108, 105, 110, 107]) = false from e 1 (by omega)]; simp), if_neg (by rw [show (x.toList == [108, 101, 97, 118, 101]) = false from e 2 (by omega)]; simp), if_neg (by rw [show (x.toList == [99, 108, 101, 97, 114]) = false from e 3 (by omega)]; simp), if_neg (by rw [show (x.toList == [97, 117, 100, 105, 116]) = false from e 4 (by omega)]; simp), if_neg (by rw [show (x.toList == [115, 104, 111, 119]) = false from e 5 (by omega)]; simp)]

theorem text_raw {x : ByteArray} {r : List ByteArray} (h : isRaw x = true) : textM (x :: r) = rawM r := by
  simp only [textM]
  rw [if_pos h]
  match r with
  | [] => rfl
  | [y] => rfl
  | _ :: _ :: _ => rfl

theorem text_op {x : ByteArray} {r : List ByteArray} (j : Nat) (hj : j < 6) (h : x.toList = wd j) : textM (x :: r) = askM ((j : Int) + 1) r := by
  obtain ⟨h1, h2⟩ := op_at j hj h
  rw [text_cons h2, h1]

theorem text_no {x : ByteArray} {r : List ByteArray} (h : ∀ j, j < 7 → x.toList ≠ wd j) : textM (x :: r) = none := by
  obtain ⟨h1, h2⟩ := op_none h
  rw [text_cons h2, askM_zero h1]

set_option maxRecDepth 100000 in
set_option maxHeartbeats 8000000 in
theorem implCmd2 (x : ByteArray) (r : List ByteArray) (b off c B T : Nat) (hL : r.length ≤ 7) (hc : r.length + 1 ≤ c) (hc1 : ¬ c = 1) (hsz : ∀ y ∈ x :: r, y.size ≤ 400) (w : World) (hB : B ≤ w.heap.size) (h : txAt w (some ⟨b, off, none⟩) B (x :: r)) (hT : T ≤ w.heap.size) (ht : Tb T w) :
    Calls Tryz.prog 55 #[.slice (some ⟨b, off, none⟩) (r.length + 1) c] w fun e w' => TextPost e (textM (x :: r)) ∧ Below w.heap.size w w' := by
  obtain ⟨b', off', eb, hbB, cx⟩ := h 0 (by simp)
  simp only [Option.some.injEq, Addr.mk.injEq, and_true] at eb
  obtain ⟨rfl, rfl⟩ := eb
  simp only [List.getElem_cons_zero, Nat.add_zero] at cx
  have hbw : b < w.heap.size := by omega
  have t1 : txAt w (some ⟨b, off + 1, none⟩) B r := by
    have h1 := h.drop 1 (c := c) (by rw [List.length_cons]; exact hc)
    rw [if_neg hc1] at h1
    simpa using h1
  have AF := hide (fun op (ho : 1 ≤ op ∧ op ≤ 6) g W (hb : Below w.heap.size w W) (hg : Blk W g #[.int .i64 op] 3) => implAskFn op ho g (some ⟨b, off + 1, none⟩) (c - 1) B T r (by have := hL; omega) W (Nat.le_trans hB hb.size) (t1.below hb hB) (Nat.le_trans hT hb.size) (ht.below hb hT) hg)
  have RF := hide (fun W (hb : Below w.heap.size w W) => implRaw (some ⟨b, off + 1, none⟩) (c - 1) B r (by have := hL; omega) (fun y hy => hsz y (by simp [hy])) W (t1.below hb hB))
  have CM := hide (implCommands w)
  have hq0 : ∀ j, j < 6 → x.toList = wd j → textM (x :: r) = askM ((j : Int) + 1) r := fun j hj h => text_op j hj h
  have hq1 : x.toList = wd 6 → textM (x :: r) = rawM r := fun h => text_raw (op_raw h)
  have hq2 : (∀ j, j < 7 → x.toList ≠ wd j) → textM (x :: r) = none := text_no
  obtain ⟨X, hX⟩ : ∃ X, X = textM (x :: r) := ⟨_, rfl⟩
  rw [← hX] at hq0 hq1 hq2 ⊢
  have HQ0 := hide hq0
  have HQ1 := hide hq1
  have HQ2 := hide hq2
  clear hq0 hq1 hq2 hX h t1 ht
  generalize r.length = n at AF RF hL hc ⊢
  go_enter Tryz.func55, Tryz.ntmps55
  go_wp2_with fail
  refine (unhide CM).mono ?_
  rintro e w1 ⟨⟨p, g1, g2, g3, g4, g5, g6, rfl, hP, k1, k2, k3, k4, k5, k6⟩, hb1⟩
  go_wp2_with fail
  go_loopw [11] (fun ai wr => ∃ k : Nat, ai = .int .i64 (k : Int) ∧ k ≤ 7 ∧ Hid (∀ j, j < k → x.toList ≠ wd j) ∧ Below w1.heap.size w1 wr) (fun ai _ => 7 - (intOf ai).toNat)
  case atStart => exact ⟨0, rfl, by omega, fun j hj => by omega, Below.refl _ _⟩
  case round =>
    obtain ⟨k, rfl, hk, HNE, hb⟩ := hrel
    have bw := hb1.trans (hb.mono hb1.size)
    have P2 := hP.below hb
    have zp := P2.lt
    have cx2 : wr.cell? ⟨b, off, none⟩ = some (.string x) := (bw.cell (p := ⟨b, off, none⟩) hbw).trans cx
    have hbw2 : b < wr.heap.size := Nat.lt_of_lt_of_le hbw bw.size
    have hcase : k = 0 ∨ k = 1 ∨ k = 2 ∨ k = 3 ∨ k = 4 ∨ k = 5 ∨ k = 6 ∨ k = 7 := by omega
    rcases hcase with rfl | rfl | rfl | rfl | rfl | rfl | rfl | rfl
    · have p0 : wr.cell? ⟨p, 0, none⟩ = some (.string ⟨#[106, 111, 105, 110]⟩) := P2.cell 0 _ rfl
      have p1 : wr.cell? ⟨p, 1, none⟩ = some (Value.func (.func 99) #[] #[.pointer (some ⟨g1, 0, none⟩)]) := P2.cell 1 _ rfl
      obtain ⟨V, hV⟩ : ∃ W, W = wr.alloc (Obj.cells #[.string ⟨#[106, 111, 105, 110]⟩, Value.func (.func 99) #[] #[.pointer (some ⟨g1, 0, none⟩)]] 105) := ⟨_, rfl⟩
      have bV : Below wr.heap.size wr V := by rw [hV]; exact below_new _ _
      have mV : Blk V wr.heap.size #[.string ⟨#[106, 111, 105, 110]⟩, Value.func (.func 99) #[] #[.pointer (some ⟨g1, 0, none⟩)]] 105 := by rw [hV]; exact Blk.new0
      have zV := mV.lt
      have v0 : V.cell? ⟨wr.heap.size, 0, none⟩ = some (.string ⟨#[106, 111, 105, 110]⟩) := mV.cell 0 _ rfl
      have v1 : V.cell? ⟨wr.heap.size, 1, none⟩ = some (Value.func (.func 99) #[] #[.pointer (some ⟨g1, 0, none⟩)]) := mV.cell 1 _ rfl
      have cx3 : V.cell? ⟨b, off, none⟩ = some (.string x) := (bV.cell (p := ⟨b, off, none⟩) hbw2).trans cx2
      have bw3 := bw.trans (bV.mono bw.size)
      have hzb : b < V.heap.size := Nat.lt_of_lt_of_le hbw2 bV.size
      have HK := hide ((k1.below hb).below bV)
      by_cases hm : x.toList = wd 0
      · have hme : (x.toList == [106, 111, 105, 110]) = true := by rw [beq_iff_eq]; exact hm
        have hme2 : ([106, 111, 105, 110] == x.toList) = true := by rw [beq_iff_eq]; exact hm.symm
        have HX := hide (unhide HQ0 0 (by omega) hm)
        clear P2 hP mV hm
        go_wp2_with fail
        rw [← hV]
        clear hV p0 p1 cx2 bV
        go_quiet (fail)
        go_wp2_with fail
        obtain ⟨U, hU⟩ : ∃ U, U = V.drewN nq := ⟨_, rfl⟩
        have bU : Below V.heap.size V U := by rw [hU]; exact below_drewN (Below.refl _ _) _
        rw [← hU]
        clear hU
        have bwU := bw3.trans (bU.mono bw3.size)
        have v1U := (bU.cell (p := ⟨wr.heap.size, 1, none⟩) zV).trans v1
        have zVU : wr.heap.size < U.heap.size := Nat.lt_of_lt_of_le zV bU.size
        have D0 : ∀ d : Grown U.heap.size U, d.w.cell? ⟨wr.heap.size, 1, none⟩ = some (Value.func (.func 99) #[] #[.pointer (some ⟨g1, 0, none⟩)]) := fun d => d.cell zVU v1U
        have HBN : Hid (∀ d : Grown U.heap.size U, Below w.heap.size w d.w) := fun d => bwU.trans (d.below.mono bwU.size)
        have AF1 := hide (fun d : Grown U.heap.size U => unhide AF 1 (by omega) g1 d.w (unhide HBN d) (((unhide HK).below bU).below d.below))
        have hx1 : (1 : Int) ≤ (n : Int) + 1 := by omega
        clear v0 v1 v1U cx3 bU
        refine wp_region_grown U.heap.size (by kernel_rfl) (by kernel_rfl) ?_
        repeat (go_big_quiet_step (first | (go_at_call 99; exact Gr.Calls.grown (Nat.le_refl _) (unhide AF1 _))))
        refine wpQuiet_nil ?_
        rintro w5 ⟨d5, rfl⟩
        go_wp2
        go_ret2
        rw [unhide HX]
        exact ⟨rfl, unhide HBN d5⟩
      · have hme : (x.toList == [106, 111, 105, 110]) = false := by rw [beq_eq_false_iff_ne]; exact hm
        have hme2 : ([106, 111, 105, 110] == x.toList) = false := by rw [beq_eq_false_iff_ne]; exact fun e => hm e.symm
        have HNE2 : Hid (∀ j, j < 1 → x.toList ≠ wd j) := fun j hj => by
          rcases Nat.lt_or_ge j 0 with h1 | h1
          · exact unhide HNE j h1
          · obtain rfl : j = 0 := by omega
            exact hm
        have bwv := hb.trans (bV.mono hb.size)
        clear P2 hP mV hm
        go_wp2_with fail
        rw [← hV]
        clear hV p0 p1 cx2 bV
        go_quiet (fail)
        go_wp2
        go_roundw
        case rel => exact ⟨1, by go_num, by omega, HNE2, below_drewN bwv _⟩
        case measure => simp [intOf]
    · have p0 : wr.cell? ⟨p, 2, none⟩ = some (.string ⟨#[108, 105, 110, 107]⟩) := P2.cell 2 _ rfl
      have p1 : wr.cell? ⟨p, 3, none⟩ = some (Value.func (.func 99) #[] #[.pointer (some ⟨g2, 0, none⟩)]) := P2.cell 3 _ rfl
      obtain ⟨V, hV⟩ : ∃ W, W = wr.alloc (Obj.cells #[.string ⟨#[108, 105, 110, 107]⟩, Value.func (.func 99) #[] #[.pointer (some ⟨g2, 0, none⟩)]] 105) := ⟨_, rfl⟩
      have bV : Below wr.heap.size wr V := by rw [hV]; exact below_new _ _
      have mV : Blk V wr.heap.size #[.string ⟨#[108, 105, 110, 107]⟩, Value.func (.func 99) #[] #[.pointer (some ⟨g2, 0, none⟩)]] 105 := by rw [hV]; exact Blk.new0
      have zV := mV.lt
      have v0 : V.cell? ⟨wr.heap.size, 0, none⟩ = some (.string ⟨#[108, 105, 110, 107]⟩) := mV.cell 0 _ rfl
      have v1 : V.cell? ⟨wr.heap.size, 1, none⟩ = some (Value.func (.func 99) #[] #[.pointer (some ⟨g2, 0, none⟩)]) := mV.cell 1 _ rfl
      have cx3 : V.cell? ⟨b, off, none⟩ = some (.string x) := (bV.cell (p := ⟨b, off, none⟩) hbw2).trans cx2
      have bw3 := bw.trans (bV.mono bw.size)
      have hzb : b < V.heap.size := Nat.lt_of_lt_of_le hbw2 bV.size
      have HK := hide ((k2.below hb).below bV)
      by_cases hm : x.toList = wd 1
      · have hme : (x.toList == [108, 105, 110, 107]) = true := by rw [beq_iff_eq]; exact hm
        have hme2 : ([108, 105, 110, 107] == x.toList) = true := by rw [beq_iff_eq]; exact hm.symm
        have HX := hide (unhide HQ0 1 (by omega) hm)
        clear P2 hP mV hm
        go_wp2_with fail
        rw [← hV]
        clear hV p0 p1 cx2 bV
        go_quiet (fail)
        go_wp2_with fail
        obtain ⟨U, hU⟩ : ∃ U, U = V.drewN nq := ⟨_, rfl⟩
        have bU : Below V.heap.size V U := by rw [hU]; exact below_drewN (Below.refl _ _) _
        rw [← hU]
        clear hU
        have bwU := bw3.trans (bU.mono bw3.size)
        have v1U := (bU.cell (p := ⟨wr.heap.size, 1, none⟩) zV).trans v1
        have zVU : wr.heap.size < U.heap.size := Nat.lt_of_lt_of_le zV bU.size
        have D0 : ∀ d : Grown U.heap.size U, d.w.cell? ⟨wr.heap.size, 1, none⟩ = some (Value.func (.func 99) #[] #[.pointer (some ⟨g2, 0, none⟩)]) := fun d => d.cell zVU v1U
        have HBN : Hid (∀ d : Grown U.heap.size U, Below w.heap.size w d.w) := fun d => bwU.trans (d.below.mono bwU.size)
        have AF1 := hide (fun d : Grown U.heap.size U => unhide AF 2 (by omega) g2 d.w (unhide HBN d) (((unhide HK).below bU).below d.below))
        have hx1 : (1 : Int) ≤ (n : Int) + 1 := by omega
        clear v0 v1 v1U cx3 bU
        refine wp_region_grown U.heap.size (by kernel_rfl) (by kernel_rfl) ?_
        repeat (go_big_quiet_step (first | (go_at_call 99; exact Gr.Calls.grown (Nat.le_refl _) (unhide AF1 _))))
        refine wpQuiet_nil ?_
        rintro w5 ⟨d5, rfl⟩
        go_wp2
        go_ret2
        rw [unhide HX]
        exact ⟨rfl, unhide HBN d5⟩
      · have hme : (x.toList == [108, 105, 110, 107]) = false := by rw [beq_eq_false_iff_ne]; exact hm
        have hme2 : ([108, 105, 110, 107] == x.toList) = false := by rw [beq_eq_false_iff_ne]; exact fun e => hm e.symm
        have HNE2 : Hid (∀ j, j < 2 → x.toList ≠ wd j) := fun j hj => by
          rcases Nat.lt_or_ge j 1 with h1 | h1
          · exact unhide HNE j h1
          · obtain rfl : j = 1 := by omega
            exact hm
        have bwv := hb.trans (bV.mono hb.size)
        clear P2 hP mV hm
        go_wp2_with fail
        rw [← hV]
        clear hV p0 p1 cx2 bV
        go_quiet (fail)
        go_wp2
        go_roundw
        case rel => exact ⟨2, by go_num, by omega, HNE2, below_drewN bwv _⟩
        case measure => simp [intOf]
    · have p0 : wr.cell? ⟨p, 4, none⟩ = some (.string ⟨#[108, 101, 97, 118, 101]⟩) := P2.cell 4 _ rfl
      have p1 : wr.cell? ⟨p, 5, none⟩ = some (Value.func (.func 99) #[] #[.pointer (some ⟨g3, 0, none⟩)]) := P2.cell 5 _ rfl
      obtain ⟨V, hV⟩ : ∃ W, W = wr.alloc (Obj.cells #[.string ⟨#[108, 101, 97, 118, 101]⟩, Value.func (.func 99) #[] #[.pointer (some ⟨g3, 0, none⟩)]] 105) := ⟨_, rfl⟩
      have bV : Below wr.heap.size wr V := by rw [hV]; exact below_new _ _
      have mV : Blk V wr.heap.size #[.string ⟨#[108, 101, 97, 118, 101]⟩, Value.func (.func 99) #[] #[.pointer (some ⟨g3, 0, none⟩)]] 105 := by rw [hV]; exact Blk.new0
      have zV := mV.lt
      have v0 : V.cell? ⟨wr.heap.size, 0, none⟩ = some (.string ⟨#[108, 101, 97, 118, 101]⟩) := mV.cell 0 _ rfl
      have v1 : V.cell? ⟨wr.heap.size, 1, none⟩ = some (Value.func (.func 99) #[] #[.pointer (some ⟨g3, 0, none⟩)]) := mV.cell 1 _ rfl
      have cx3 : V.cell? ⟨b, off, none⟩ = some (.string x) := (bV.cell (p := ⟨b, off, none⟩) hbw2).trans cx2
      have bw3 := bw.trans (bV.mono bw.size)
      have hzb : b < V.heap.size := Nat.lt_of_lt_of_le hbw2 bV.size
      have HK := hide ((k3.below hb).below bV)
      by_cases hm : x.toList = wd 2
      · have hme : (x.toList == [108, 101, 97, 118, 101]) = true := by rw [beq_iff_eq]; exact hm
        have hme2 : ([108, 101, 97, 118, 101] == x.toList) = true := by rw [beq_iff_eq]; exact hm.symm
        have HX := hide (unhide HQ0 2 (by omega) hm)
        clear P2 hP mV hm
        go_wp2_with fail
        rw [← hV]
        clear hV p0 p1 cx2 bV
        go_quiet (fail)
        go_wp2_with fail
        obtain ⟨U, hU⟩ : ∃ U, U = V.drewN nq := ⟨_, rfl⟩
        have bU : Below V.heap.size V U := by rw [hU]; exact below_drewN (Below.refl _ _) _
        rw [← hU]
        clear hU
        have bwU := bw3.trans (bU.mono bw3.size)
        have v1U := (bU.cell (p := ⟨wr.heap.size, 1, none⟩) zV).trans v1
        have zVU : wr.heap.size < U.heap.size := Nat.lt_of_lt_of_le zV bU.size
        have D0 : ∀ d : Grown U.heap.size U, d.w.cell? ⟨wr.heap.size, 1, none⟩ = some (Value.func (.func 99) #[] #[.pointer (some ⟨g3, 0, none⟩)]) := fun d => d.cell zVU v1U
        have HBN : Hid (∀ d : Grown U.heap.size U, Below w.heap.size w d.w) := fun d => bwU.trans (d.below.mono bwU.size)
        have AF1 := hide (fun d : Grown U.heap.size U => unhide AF 3 (by omega) g3 d.w (unhide HBN d) (((unhide HK).below bU).below d.below))
        have hx1 : (1 : Int) ≤ (n : Int) + 1 := by omega
        clear v0 v1 v1U cx3 bU
        refine wp_region_grown U.heap.size (by kernel_rfl) (by kernel_rfl) ?_
        repeat (go_big_quiet_step (first | (go_at_call 99; exact Gr.Calls.grown (Nat.le_refl _) (unhide AF1 _))))
        refine wpQuiet_nil ?_
        rintro w5 ⟨d5, rfl⟩
        go_wp2
        go_ret2
        rw [unhide HX]
        exact ⟨rfl, unhide HBN d5⟩
      · have hme : (x.toList == [108, 101, 97, 118, 101]) = false := by rw [beq_eq_false_iff_ne]; exact hm
        have hme2 : ([108, 101, 97, 118, 101] == x.toList) = false := by rw [beq_eq_false_iff_ne]; exact fun e => hm e.symm
        have HNE2 : Hid (∀ j, j < 3 → x.toList ≠ wd j) := fun j hj => by
          rcases Nat.lt_or_ge j 2 with h1 | h1
          · exact unhide HNE j h1
          · obtain rfl : j = 2 := by omega
            exact hm
        have bwv := hb.trans (bV.mono hb.size)
        clear P2 hP mV hm
        go_wp2_with fail
        rw [← hV]
        clear hV p0 p1 cx2 bV
        go_quiet (fail)
        go_wp2
        go_roundw
        case rel => exact ⟨3, by go_num, by omega, HNE2, below_drewN bwv _⟩
        case measure => simp [intOf]
    · have p0 : wr.cell? ⟨p, 6, none⟩ = some (.string ⟨#[99, 108, 101, 97, 114]⟩) := P2.cell 6 _ rfl
      have p1 : wr.cell? ⟨p, 7, none⟩ = some (Value.func (.func 99) #[] #[.pointer (some ⟨g4, 0, none⟩)]) := P2.cell 7 _ rfl
      obtain ⟨V, hV⟩ : ∃ W, W = wr.alloc (Obj.cells #[.string ⟨#[99, 108, 101, 97, 114]⟩, Value.func (.func 99) #[] #[.pointer (some ⟨g4, 0, none⟩)]] 105) := ⟨_, rfl⟩
      have bV : Below wr.heap.size wr V := by rw [hV]; exact below_new _ _
      have mV : Blk V wr.heap.size #[.string ⟨#[99, 108, 101, 97, 114]⟩, Value.func (.func 99) #[] #[.pointer (some ⟨g4, 0, none⟩)]] 105 := by rw [hV]; exact Blk.new0
      have zV := mV.lt
      have v0 : V.cell? ⟨wr.heap.size, 0, none⟩ = some (.string ⟨#[99, 108, 101, 97, 114]⟩) := mV.cell 0 _ rfl
      have v1 : V.cell? ⟨wr.heap.size, 1, none⟩ = some (Value.func (.func 99) #[] #[.pointer (some ⟨g4, 0, none⟩)]) := mV.cell 1 _ rfl
      have cx3 : V.cell? ⟨b, off, none⟩ = some (.string x) := (bV.cell (p := ⟨b, off, none⟩) hbw2).trans cx2
      have bw3 := bw.trans (bV.mono bw.size)
      have hzb : b < V.heap.size := Nat.lt_of_lt_of_le hbw2 bV.size
      have HK := hide ((k4.below hb).below bV)
      by_cases hm : x.toList = wd 3
      · have hme : (x.toList == [99, 108, 101, 97, 114]) = true := by rw [beq_iff_eq]; exact hm
        have hme2 : ([99, 108, 101, 97, 114] == x.toList) = true := by rw [beq_iff_eq]; exact hm.symm
        have HX := hide (unhide HQ0 3 (by omega) hm)
        clear P2 hP mV hm
        go_wp2_with fail
        rw [← hV]
        clear hV p0 p1 cx2 bV
        go_quiet (fail)
        go_wp2_with fail
        obtain ⟨U, hU⟩ : ∃ U, U = V.drewN nq := ⟨_, rfl⟩
        have bU : Below V.heap.size V U := by rw [hU]; exact below_drewN (Below.refl _ _) _
        rw [← hU]
        clear hU
        have bwU := bw3.trans (bU.mono bw3.size)
        have v1U := (bU.cell (p := ⟨wr.heap.size, 1, none⟩) zV).trans v1
        have zVU : wr.heap.size < U.heap.size := Nat.lt_of_lt_of_le zV bU.size
        have D0 : ∀ d : Grown U.heap.size U, d.w.cell? ⟨wr.heap.size, 1, none⟩ = some (Value.func (.func 99) #[] #[.pointer (some ⟨g4, 0, none⟩)]) := fun d => d.cell zVU v1U
        have HBN : Hid (∀ d : Grown U.heap.size U, Below w.heap.size w d.w) := fun d => bwU.trans (d.below.mono bwU.size)
        have AF1 := hide (fun d : Grown U.heap.size U => unhide AF 4 (by omega) g4 d.w (unhide HBN d) (((unhide HK).below bU).below d.below))
        have hx1 : (1 : Int) ≤ (n : Int) + 1 := by omega
        clear v0 v1 v1U cx3 bU
        refine wp_region_grown U.heap.size (by kernel_rfl) (by kernel_rfl) ?_
        repeat (go_big_quiet_step (first | (go_at_call 99; exact Gr.Calls.grown (Nat.le_refl _) (unhide AF1 _))))
        refine wpQuiet_nil ?_
        rintro w5 ⟨d5, rfl⟩
        go_wp2
        go_ret2
        rw [unhide HX]
        exact ⟨rfl, unhide HBN d5⟩
      · have hme : (x.toList == [99, 108, 101, 97, 114]) = false := by rw [beq_eq_false_iff_ne]; exact hm
        have hme2 : ([99, 108, 101, 97, 114] == x.toList) = false := by rw [beq_eq_false_iff_ne]; exact fun e => hm e.symm
        have HNE2 : Hid (∀ j, j < 4 → x.toList ≠ wd j) := fun j hj => by
          rcases Nat.lt_or_ge j 3 with h1 | h1
          · exact unhide HNE j h1
          · obtain rfl : j = 3 := by omega
            exact hm
        have bwv := hb.trans (bV.mono hb.size)
        clear P2 hP mV hm
        go_wp2_with fail
        rw [← hV]
        clear hV p0 p1 cx2 bV
        go_quiet (fail)
        go_wp2
        go_roundw
        case rel => exact ⟨4, by go_num, by omega, HNE2, below_drewN bwv _⟩
        case measure => simp [intOf]
    · have p0 : wr.cell? ⟨p, 8, none⟩ = some (.string ⟨#[97, 117, 100, 105, 116]⟩) := P2.cell 8 _ rfl
      have p1 : wr.cell? ⟨p, 9, none⟩ = some (Value.func (.func 99) #[] #[.pointer (some ⟨g5, 0, none⟩)]) := P2.cell 9 _ rfl
      obtain ⟨V, hV⟩ : ∃ W, W = wr.alloc (Obj.cells #[.string ⟨#[97, 117, 100, 105, 116]⟩, Value.func (.func 99) #[] #[.pointer (some ⟨g5, 0, none⟩)]] 105) := ⟨_, rfl⟩
      have bV : Below wr.heap.size wr V := by rw [hV]; exact below_new _ _
      have mV : Blk V wr.heap.size #[.string ⟨#[97, 117, 100, 105, 116]⟩, Value.func (.func 99) #[] #[.pointer (some ⟨g5, 0, none⟩)]] 105 := by rw [hV]; exact Blk.new0
      have zV := mV.lt
      have v0 : V.cell? ⟨wr.heap.size, 0, none⟩ = some (.string ⟨#[97, 117, 100, 105, 116]⟩) := mV.cell 0 _ rfl
      have v1 : V.cell? ⟨wr.heap.size, 1, none⟩ = some (Value.func (.func 99) #[] #[.pointer (some ⟨g5, 0, none⟩)]) := mV.cell 1 _ rfl
      have cx3 : V.cell? ⟨b, off, none⟩ = some (.string x) := (bV.cell (p := ⟨b, off, none⟩) hbw2).trans cx2
      have bw3 := bw.trans (bV.mono bw.size)
      have hzb : b < V.heap.size := Nat.lt_of_lt_of_le hbw2 bV.size
      have HK := hide ((k5.below hb).below bV)
      by_cases hm : x.toList = wd 4
      · have hme : (x.toList == [97, 117, 100, 105, 116]) = true := by rw [beq_iff_eq]; exact hm
        have hme2 : ([97, 117, 100, 105, 116] == x.toList) = true := by rw [beq_iff_eq]; exact hm.symm
        have HX := hide (unhide HQ0 4 (by omega) hm)
        clear P2 hP mV hm
        go_wp2_with fail
        rw [← hV]
        clear hV p0 p1 cx2 bV
        go_quiet (fail)
        go_wp2_with fail
        obtain ⟨U, hU⟩ : ∃ U, U = V.drewN nq := ⟨_, rfl⟩
        have bU : Below V.heap.size V U := by rw [hU]; exact below_drewN (Below.refl _ _) _
        rw [← hU]
        clear hU
        have bwU := bw3.trans (bU.mono bw3.size)
        have v1U := (bU.cell (p := ⟨wr.heap.size, 1, none⟩) zV).trans v1
        have zVU : wr.heap.size < U.heap.size := Nat.lt_of_lt_of_le zV bU.size
        have D0 : ∀ d : Grown U.heap.size U, d.w.cell? ⟨wr.heap.size, 1, none⟩ = some (Value.func (.func 99) #[] #[.pointer (some ⟨g5, 0, none⟩)]) := fun d => d.cell zVU v1U
        have HBN : Hid (∀ d : Grown U.heap.size U, Below w.heap.size w d.w) := fun d => bwU.trans (d.below.mono bwU.size)
        have AF1 := hide (fun d : Grown U.heap.size U => unhide AF 5 (by omega) g5 d.w (unhide HBN d) (((unhide HK).below bU).below d.below))
        have hx1 : (1 : Int) ≤ (n : Int) + 1 := by omega
        clear v0 v1 v1U cx3 bU
        refine wp_region_grown U.heap.size (by kernel_rfl) (by kernel_rfl) ?_
        repeat (go_big_quiet_step (first | (go_at_call 99; exact Gr.Calls.grown (Nat.le_refl _) (unhide AF1 _))))
        refine wpQuiet_nil ?_
        rintro w5 ⟨d5, rfl⟩
        go_wp2
        go_ret2
        rw [unhide HX]
        exact ⟨rfl, unhide HBN d5⟩
      · have hme : (x.toList == [97, 117, 100, 105, 116]) = false := by rw [beq_eq_false_iff_ne]; exact hm
        have hme2 : ([97, 117, 100, 105, 116] == x.toList) = false := by rw [beq_eq_false_iff_ne]; exact fun e => hm e.symm
        have HNE2 : Hid (∀ j, j < 5 → x.toList ≠ wd j) := fun j hj => by
          rcases Nat.lt_or_ge j 4 with h1 | h1
          · exact unhide HNE j h1
          · obtain rfl : j = 4 := by omega
            exact hm
        have bwv := hb.trans (bV.mono hb.size)
        clear P2 hP mV hm
        go_wp2_with fail
        rw [← hV]
        clear hV p0 p1 cx2 bV
        go_quiet (fail)
        go_wp2
        go_roundw
        case rel => exact ⟨5, by go_num, by omega, HNE2, below_drewN bwv _⟩
        case measure => simp [intOf]
    · have p0 : wr.cell? ⟨p, 10, none⟩ = some (.string ⟨#[115, 104, 111, 119]⟩) := P2.cell 10 _ rfl
      have p1 : wr.cell? ⟨p, 11, none⟩ = some (Value.func (.func 99) #[] #[.pointer (some ⟨g6, 0, none⟩)]) := P2.cell 11 _ rfl
      obtain ⟨V, hV⟩ : ∃ W, W = wr.alloc (Obj.cells #[.string ⟨#[115, 104, 111, 119]⟩, Value.func (.func 99) #[] #[.pointer (some ⟨g6, 0, none⟩)]] 105) := ⟨_, rfl⟩
      have bV : Below wr.heap.size wr V := by rw [hV]; exact below_new _ _
      have mV : Blk V wr.heap.size #[.string ⟨#[115, 104, 111, 119]⟩, Value.func (.func 99) #[] #[.pointer (some ⟨g6, 0, none⟩)]] 105 := by rw [hV]; exact Blk.new0
      have zV := mV.lt
      have v0 : V.cell? ⟨wr.heap.size, 0, none⟩ = some (.string ⟨#[115, 104, 111, 119]⟩) := mV.cell 0 _ rfl
      have v1 : V.cell? ⟨wr.heap.size, 1, none⟩ = some (Value.func (.func 99) #[] #[.pointer (some ⟨g6, 0, none⟩)]) := mV.cell 1 _ rfl
      have cx3 : V.cell? ⟨b, off, none⟩ = some (.string x) := (bV.cell (p := ⟨b, off, none⟩) hbw2).trans cx2
      have bw3 := bw.trans (bV.mono bw.size)
      have hzb : b < V.heap.size := Nat.lt_of_lt_of_le hbw2 bV.size
      have HK := hide ((k6.below hb).below bV)
      by_cases hm : x.toList = wd 5
      · have hme : (x.toList == [115, 104, 111, 119]) = true := by rw [beq_iff_eq]; exact hm
        have hme2 : ([115, 104, 111, 119] == x.toList) = true := by rw [beq_iff_eq]; exact hm.symm
        have HX := hide (unhide HQ0 5 (by omega) hm)
        clear P2 hP mV hm
        go_wp2_with fail
        rw [← hV]
        clear hV p0 p1 cx2 bV
        go_quiet (fail)
        go_wp2_with fail
        obtain ⟨U, hU⟩ : ∃ U, U = V.drewN nq := ⟨_, rfl⟩
        have bU : Below V.heap.size V U := by rw [hU]; exact below_drewN (Below.refl _ _) _
        rw [← hU]
        clear hU
        have bwU := bw3.trans (bU.mono bw3.size)
        have v1U := (bU.cell (p := ⟨wr.heap.size, 1, none⟩) zV).trans v1
        have zVU : wr.heap.size < U.heap.size := Nat.lt_of_lt_of_le zV bU.size
        have D0 : ∀ d : Grown U.heap.size U, d.w.cell? ⟨wr.heap.size, 1, none⟩ = some (Value.func (.func 99) #[] #[.pointer (some ⟨g6, 0, none⟩)]) := fun d => d.cell zVU v1U
        have HBN : Hid (∀ d : Grown U.heap.size U, Below w.heap.size w d.w) := fun d => bwU.trans (d.below.mono bwU.size)
        have AF1 := hide (fun d : Grown U.heap.size U => unhide AF 6 (by omega) g6 d.w (unhide HBN d) (((unhide HK).below bU).below d.below))
        have hx1 : (1 : Int) ≤ (n : Int) + 1 := by omega
        clear v0 v1 v1U cx3 bU
        refine wp_region_grown U.heap.size (by kernel_rfl) (by kernel_rfl) ?_
        repeat (go_big_quiet_step (first | (go_at_call 99; exact Gr.Calls.grown (Nat.le_refl _) (unhide AF1 _))))
        refine wpQuiet_nil ?_
        rintro w5 ⟨d5, rfl⟩
        go_wp2
        go_ret2
        rw [unhide HX]
        exact ⟨rfl, unhide HBN d5⟩
      · have hme : (x.toList == [115, 104, 111, 119]) = false := by rw [beq_eq_false_iff_ne]; exact hm
        have hme2 : ([115, 104, 111, 119] == x.toList) = false := by rw [beq_eq_false_iff_ne]; exact fun e => hm e.symm
        have HNE2 : Hid (∀ j, j < 6 → x.toList ≠ wd j) := fun j hj => by
          rcases Nat.lt_or_ge j 5 with h1 | h1
          · exact unhide HNE j h1
          · obtain rfl : j = 5 := by omega
            exact hm
        have bwv := hb.trans (bV.mono hb.size)
        clear P2 hP mV hm
        go_wp2_with fail
        rw [← hV]
        clear hV p0 p1 cx2 bV
        go_quiet (fail)
        go_wp2
        go_roundw
        case rel => exact ⟨6, by go_num, by omega, HNE2, below_drewN bwv _⟩
        case measure => simp [intOf]
    · have p0 : wr.cell? ⟨p, 12, none⟩ = some (.string ⟨#[114, 97, 119]⟩) := P2.cell 12 _ rfl
      have p1 : wr.cell? ⟨p, 13, none⟩ = some (Value.func (.func 87) #[] #[]) := P2.cell 13 _ rfl
      obtain ⟨V, hV⟩ : ∃ W, W = wr.alloc (Obj.cells #[.string ⟨#[114, 97, 119]⟩, Value.func (.func 87) #[] #[]] 105) := ⟨_, rfl⟩
      have bV : Below wr.heap.size wr V := by rw [hV]; exact below_new _ _
      have mV : Blk V wr.heap.size #[.string ⟨#[114, 97, 119]⟩, Value.func (.func 87) #[] #[]] 105 := by rw [hV]; exact Blk.new0
      have zV := mV.lt
      have v0 : V.cell? ⟨wr.heap.size, 0, none⟩ = some (.string ⟨#[114, 97, 119]⟩) := mV.cell 0 _ rfl
      have v1 : V.cell? ⟨wr.heap.size, 1, none⟩ = some (Value.func (.func 87) #[] #[]) := mV.cell 1 _ rfl
      have cx3 : V.cell? ⟨b, off, none⟩ = some (.string x) := (bV.cell (p := ⟨b, off, none⟩) hbw2).trans cx2
      have bw3 := bw.trans (bV.mono bw.size)
      have hzb : b < V.heap.size := Nat.lt_of_lt_of_le hbw2 bV.size
      by_cases hm : x.toList = wd 6
      · have hme : (x.toList == [114, 97, 119]) = true := by rw [beq_iff_eq]; exact hm
        have hme2 : ([114, 97, 119] == x.toList) = true := by rw [beq_iff_eq]; exact hm.symm
        have HX := hide (unhide HQ1 hm)
        clear P2 hP mV hm
        go_wp2_with fail
        rw [← hV]
        clear hV p0 p1 cx2 bV
        go_quiet (fail)
        go_wp2_with fail
        obtain ⟨U, hU⟩ : ∃ U, U = V.drewN nq := ⟨_, rfl⟩
        have bU : Below V.heap.size V U := by rw [hU]; exact below_drewN (Below.refl _ _) _
        rw [← hU]
        clear hU
        have bwU := bw3.trans (bU.mono bw3.size)
        have v1U := (bU.cell (p := ⟨wr.heap.size, 1, none⟩) zV).trans v1
        have zVU : wr.heap.size < U.heap.size := Nat.lt_of_lt_of_le zV bU.size
        have D0 : ∀ d : Grown U.heap.size U, d.w.cell? ⟨wr.heap.size, 1, none⟩ = some (Value.func (.func 87) #[] #[]) := fun d => d.cell zVU v1U
        have HBN : Hid (∀ d : Grown U.heap.size U, Below w.heap.size w d.w) := fun d => bwU.trans (d.below.mono bwU.size)
        have AF1 := hide (fun d : Grown U.heap.size U => unhide RF d.w (unhide HBN d))
        have hx1 : (1 : Int) ≤ (n : Int) + 1 := by omega
        clear v0 v1 v1U cx3 bU
        refine wp_region_grown U.heap.size (by kernel_rfl) (by kernel_rfl) ?_
        repeat (go_big_quiet_step (first | (go_at_call 87; exact Gr.Calls.grown (Nat.le_refl _) (unhide AF1 _))))
        refine wpQuiet_nil ?_
        rintro w5 ⟨d5, rfl⟩
        go_wp2
        go_ret2
        rw [unhide HX]
        exact ⟨rfl, unhide HBN d5⟩
      · have hme : (x.toList == [114, 97, 119]) = false := by rw [beq_eq_false_iff_ne]; exact hm
        have hme2 : ([114, 97, 119] == x.toList) = false := by rw [beq_eq_false_iff_ne]; exact fun e => hm e.symm
        have HNE2 : Hid (∀ j, j < 7 → x.toList ≠ wd j) := fun j hj => by
          rcases Nat.lt_or_ge j 6 with h1 | h1
          · exact unhide HNE j h1
          · obtain rfl : j = 6 := by omega
            exact hm
        have bwv := hb.trans (bV.mono hb.size)
        clear P2 hP mV hm
        go_wp2_with fail
        rw [← hV]
        clear hV p0 p1 cx2 bV
        go_quiet (fail)
        go_wp2
        go_roundw
        case rel => exact ⟨7, by go_num, by omega, HNE2, below_drewN bwv _⟩
        case measure => simp [intOf]
    · have HX := hide (unhide HQ2 (unhide HNE))
      clear P2 hP
      go_wp2
      go_ret2
      rw [unhide HX]
      exact ⟨rfl, bw⟩

end Sc
end Go.Proofs.YtjhnippfepbjmaaGreatDoor

/-
  impl.commandText, of a lone word; and of any parts.
-/
namespace Go.Proofs.YtjhnippfepbjmaaGreatDoor
namespace Sc
open Go.RowKit
open Gr (own_below own_lower InOwn InAt Blk Kept below_new Grown wp_region_grown)

set_option maxRecDepth 100000 in
set_option maxHeartbeats 8000000 in
theorem implCmd1 (x : ByteArray) (r : List ByteArray) (b off B T : Nat) (hL : r.length ≤ 7) (hr0 : r.length = 0) (hsz : ∀ y ∈ x :: r, y.size ≤ 400) (w : World) (hB : B ≤ w.heap.size) (h : txAt w (some ⟨b, off, none⟩) B (x :: r)) (hT : T ≤ w.heap.size) (ht : Tb T w) :
    Calls Tryz.prog 55 #[.slice (some ⟨b, off, none⟩) (r.length + 1) 1] w fun e w' => TextPost e (textM (x :: r)) ∧ Below w.heap.size w w' := by
  obtain ⟨b', off', eb, hbB, cx⟩ := h 0 (by simp)
  simp only [Option.some.injEq, Addr.mk.injEq, and_true] at eb
  obtain ⟨rfl, rfl⟩ := eb
  simp only [List.getElem_cons_zero, Nat.add_zero] at cx
  have hbw : b < w.heap.size := by omega
  obtain rfl : r = [] := List.eq_nil_of_length_eq_zero hr0
  have t1 : txAt w (some ⟨b, off, none⟩) B ([] : List ByteArray) := txAt.nil _ _ _
  have AF := hide (fun op (ho : 1 ≤ op ∧ op ≤ 6) g W (hb : Below w.heap.size w W) (hg : Blk W g #[.int .i64 op] 3) => implAskFn op ho g (some ⟨b, off, none⟩) 0 B T [] (by have := hL; omega) W (Nat.le_trans hB hb.size) (t1.below hb hB) (Nat.le_trans hT hb.size) (ht.below hb hT) hg)
  have RF := hide (fun W (hb : Below w.heap.size w W) => implRaw (some ⟨b, off, none⟩) 0 B [] (by have := hL; omega) (fun y hy => hsz y (by simp [hy])) W (t1.below hb hB))
  have CM := hide (implCommands w)
  have hq0 : ∀ j, j < 6 → x.toList = wd j → textM (x :: []) = askM ((j : Int) + 1) [] := fun j hj h => text_op j hj h
  have hq1 : x.toList = wd 6 → textM (x :: []) = rawM [] := fun h => text_raw (op_raw h)
  have hq2 : (∀ j, j < 7 → x.toList ≠ wd j) → textM (x :: []) = none := text_no
  obtain ⟨X, hX⟩ : ∃ X, X = textM (x :: []) := ⟨_, rfl⟩
  rw [← hX] at hq0 hq1 hq2 ⊢
  have HQ0 := hide hq0
  have HQ1 := hide hq1
  have HQ2 := hide hq2
  clear hq0 hq1 hq2 hX h t1 ht
  simp only [List.length_nil, Nat.zero_add] at AF RF ⊢
  go_enter Tryz.func55, Tryz.ntmps55
  go_wp2_with fail
  refine (unhide CM).mono ?_
  rintro e w1 ⟨⟨p, g1, g2, g3, g4, g5, g6, rfl, hP, k1, k2, k3, k4, k5, k6⟩, hb1⟩
  go_wp2_with fail
  go_loopw [11] (fun ai wr => ∃ k : Nat, ai = .int .i64 (k : Int) ∧ k ≤ 7 ∧ Hid (∀ j, j < k → x.toList ≠ wd j) ∧ Below w1.heap.size w1 wr) (fun ai _ => 7 - (intOf ai).toNat)
  case atStart => exact ⟨0, rfl, by omega, fun j hj => by omega, Below.refl _ _⟩
  case round =>
    obtain ⟨k, rfl, hk, HNE, hb⟩ := hrel
    have bw := hb1.trans (hb.mono hb1.size)
    have P2 := hP.below hb
    have zp := P2.lt
    have cx2 : wr.cell? ⟨b, off, none⟩ = some (.string x) := (bw.cell (p := ⟨b, off, none⟩) hbw).trans cx
    have hbw2 : b < wr.heap.size := Nat.lt_of_lt_of_le hbw bw.size
    have hcase : k = 0 ∨ k = 1 ∨ k = 2 ∨ k = 3 ∨ k = 4 ∨ k = 5 ∨ k = 6 ∨ k = 7 := by omega
    rcases hcase with rfl | rfl | rfl | rfl | rfl | rfl | rfl | rfl
    · have p0 : wr.cell? ⟨p, 0, none⟩ = some (.string ⟨#[106, 111, 105, 110]⟩) := P2.cell 0 _ rfl
      have p1 : wr.cell? ⟨p, 1, none⟩ = some (Value.func (.func 99) #[] #[.pointer (some ⟨g1, 0, none⟩)]) := P2.cell 1 _ rfl
      obtain ⟨V, hV⟩ : ∃ W, W = wr.alloc (Obj.cells #[.string ⟨#[106, 111, 105, 110]⟩, Value.func (.func 99) #[] #[.pointer (some ⟨g1, 0, none⟩)]] 105) := ⟨_, rfl⟩
      have bV : Below wr.heap.size wr V := by rw [hV]; exact below_new _ _
      have mV : Blk V wr.heap.size #[.string ⟨#[106, 111, 105, 110]⟩, Value.func (.func 99) #[] #[.pointer (some ⟨g1, 0, none⟩)]] 105 := by rw [hV]; exact Blk.new0
      have zV := mV.lt
      have v0 : V.cell? ⟨wr.heap.size, 0, none⟩ = some (.string ⟨#[106, 111, 105, 110]⟩) := mV.cell 0 _ rfl
      have v1 : V.cell? ⟨wr.heap.size, 1, none⟩ = some (Value.func (.func 99) #[] #[.pointer (some ⟨g1, 0, none⟩)]) := mV.cell 1 _ rfl
      have cx3 : V.cell? ⟨b, off, none⟩ = some (.string x) := (bV.cell (p := ⟨b, off, none⟩) hbw2).trans cx2
      have bw3 := bw.trans (bV.mono bw.size)
      have hzb : b < V.heap.size := Nat.lt_of_lt_of_le hbw2 bV.size
      have HK := hide ((k1.below hb).below bV)
      by_cases hm : x.toList = wd 0
      · have hme : (x.toList == [106, 111, 105, 110]) = true := by rw [beq_iff_eq]; exact hm
        have hme2 : ([106, 111, 105, 110] == x.toList) = true := by rw [beq_iff_eq]; exact hm.symm
        have HX := hide (unhide HQ0 0 (by omega) hm)
        clear P2 hP mV hm
        go_wp2_with fail
        rw [← hV]
        clear hV p0 p1 cx2 bV
        go_quiet (fail)
        go_wp2_with fail
        obtain ⟨U, hU⟩ : ∃ U, U = V.drewN nq := ⟨_, rfl⟩
        have bU : Below V.heap.size V U := by rw [hU]; exact below_drewN (Below.refl _ _) _
        rw [← hU]
        clear hU
        have bwU := bw3.trans (bU.mono bw3.size)
        have v1U := (bU.cell (p := ⟨wr.heap.size, 1, none⟩) zV).trans v1
        have zVU : wr.heap.size < U.heap.size := Nat.lt_of_lt_of_le zV bU.size
        have D0 : ∀ d : Grown U.heap.size U, d.w.cell? ⟨wr.heap.size, 1, none⟩ = some (Value.func (.func 99) #[] #[.pointer (some ⟨g1, 0, none⟩)]) := fun d => d.cell zVU v1U
        have HBN : Hid (∀ d : Grown U.heap.size U, Below w.heap.size w d.w) := fun d => bwU.trans (d.below.mono bwU.size)
        have AF1 := hide (fun d : Grown U.heap.size U => unhide AF 1 (by omega) g1 d.w (unhide HBN d) (((unhide HK).below bU).below d.below))
        have hx1 : (1 : Int) ≤ (0 : Int) + 1 := by omega
        clear v0 v1 v1U cx3 bU
        refine wp_region_grown U.heap.size (by kernel_rfl) (by kernel_rfl) ?_
        repeat (go_big_quiet_step (first | (go_at_call 99; exact Gr.Calls.grown (Nat.le_refl _) (unhide AF1 _))))
        refine wpQuiet_nil ?_
        rintro w5 ⟨d5, rfl⟩
        go_wp2
        go_ret2
        rw [unhide HX]
        exact ⟨rfl, unhide HBN d5⟩
      · have hme : (x.toList == [106, 111, 105, 110]) = false := by rw [beq_eq_false_iff_ne]; exact hm
        have hme2 : ([106, 111, 105, 110] == x.toList) = false := by rw [beq_eq_false_iff_ne]; exact fun e => hm e.symm
        have HNE2 : Hid (∀ j, j < 1 → x.toList ≠ wd j) := fun j hj => by
          rcases Nat.lt_or_ge j 0 with h1 | h1
          · exact unhide HNE j h1
          · obtain rfl : j = 0 := by omega
            exact hm
        have bwv := hb.trans (bV.mono hb.size)
        clear P2 hP mV hm
        go_wp2_with fail
        rw [← hV]
        clear hV p0 p1 cx2 bV
        go_quiet (fail)
        go_wp2
        go_roundw
        case rel => exact ⟨1, by go_num, by omega, HNE2, below_drewN bwv _⟩
        case measure => simp [intOf]
    · have p0 : wr.cell? ⟨p, 2, none⟩ = some (.string ⟨#[108, 105, 110, 107]⟩) := P2.cell 2 _ rfl
      have p1 : wr.cell? ⟨p, 3, none⟩ = some (Value.func (.func 99) #[] #[.pointer (some ⟨g2, 0, none⟩)]) := P2.cell 3 _ rfl
      obtain ⟨V, hV⟩ : ∃ W, W = wr.alloc (Obj.cells #[.string ⟨#[108, 105, 110, 107]⟩, Value.func (.func 99) #[] #[.pointer (some ⟨g2, 0, none⟩)]] 105) := ⟨_, rfl⟩
      have bV : Below wr.heap.size wr V := by rw [hV]; exact below_new _ _
      have mV : Blk V wr.heap.size #[.string ⟨#[108, 105, 110, 107]⟩, Value.func (.func 99) #[] #[.pointer (some ⟨g2, 0, none⟩)]] 105 := by rw [hV]; exact Blk.new0
      have zV := mV.lt
      have v0 : V.cell? ⟨wr.heap.size, 0, none⟩ = some (.string ⟨#[108, 105, 110, 107]⟩) := mV.cell 0 _ rfl
      have v1 : V.cell? ⟨wr.heap.size, 1, none⟩ = some (Value.func (.func 99) #[] #[.pointer (some ⟨g2, 0, none⟩)]) := mV.cell 1 _ rfl
      have cx3 : V.cell? ⟨b, off, none⟩ = some (.string x) := (bV.cell (p := ⟨b, off, none⟩) hbw2).trans cx2
      have bw3 := bw.trans (bV.mono bw.size)
      have hzb : b < V.heap.size := Nat.lt_of_lt_of_le hbw2 bV.size
      have HK := hide ((k2.below hb).below bV)
      by_cases hm : x.toList = wd 1
      · have hme : (x.toList == [108, 105, 110, 107]) = true := by rw [beq_iff_eq]; exact hm
        have hme2 : ([108, 105, 110, 107] == x.toList) = true := by rw [beq_iff_eq]; exact hm.symm
        have HX := hide (unhide HQ0 1 (by omega) hm)
        clear P2 hP mV hm
        go_wp2_with fail
        rw [← hV]
        clear hV p0 p1 cx2 bV
        go_quiet (fail)
        go_wp2_with fail
        obtain ⟨U, hU⟩ : ∃ U, U = V.drewN nq := ⟨_, rfl⟩
        have bU : Below V.heap.size V U := by rw [hU]; exact below_drewN (Below.refl _ _) _
        rw [← hU]
        clear hU
        have bwU := bw3.trans (bU.mono bw3.size)
        have v1U := (bU.cell (p := ⟨wr.heap.size, 1, none⟩) zV).trans v1
        have zVU : wr.heap.size < U.heap.size := Nat.lt_of_lt_of_le zV bU.size
        have D0 : ∀ d : Grown U.heap.size U, d.w.cell? ⟨wr.heap.size, 1, none⟩ = some (Value.func (.func 99) #[] #[.pointer (some ⟨g2, 0, none⟩)]) := fun d => d.cell zVU v1U
        have HBN : Hid (∀ d : Grown U.heap.size U, Below w.heap.size w d.w) := fun d => bwU.trans (d.below.mono bwU.size)
        have AF1 := hide (fun d : Grown U.heap.size U => unhide AF 2 (by omega) g2 d.w (unhide HBN d) (((unhide HK).below bU).below d.below))
        have hx1 : (1 : Int) ≤ (0 : Int) + 1 := by omega
        clear v0 v1 v1U cx3 bU
        refine wp_region_grown U.heap.size (by kernel_rfl) (by kernel_rfl) ?_
        repeat (go_big_quiet_step (first | (go_at_call 99; exact Gr.Calls.grown (Nat.le_refl _) (unhide AF1 _))))
        refine wpQuiet_nil ?_
        rintro w5 ⟨d5, rfl⟩
        go_wp2
        go_ret2
        rw [unhide HX]
        exact ⟨rfl, unhide HBN d5⟩
      · have hme : (x.toList == [108, 105, 110, 107]) = false := by rw [beq_eq_false_iff_ne]; exact hm
        have hme2 : ([108, 105, 110, 107] == x.toList) = false := by rw [beq_eq_false_iff_ne]; exact fun e => hm e.symm
        have HNE2 : Hid (∀ j, j < 2 → x.toList ≠ wd j) := fun j hj => by
          rcases Nat.lt_or_ge j 1 with h1 | h1
          · exact unhide HNE j h1
          · obtain rfl : j = 1 := by omega
            exact hm
        have bwv := hb.trans (bV.mono hb.size)
        clear P2 hP mV hm
        go_wp2_with fail
        rw [← hV]
        clear hV p0 p1 cx2 bV
        go_quiet (fail)
        go_wp2
        go_roundw
        case rel => exact ⟨2, by go_num, by omega, HNE2, below_drewN bwv _⟩
        case measure => simp [intOf]
    · have p0 : wr.cell? ⟨p, 4, none⟩ = some (.string ⟨#[108, 101, 97, 118, 101]⟩) := P2.cell 4 _ rfl
      have p1 : wr.cell? ⟨p, 5, none⟩ = some (Value.func (.func 99) #[] #[.pointer (some ⟨g3, 0, none⟩)]) := P2.cell 5 _ rfl
      obtain ⟨V, hV⟩ : ∃ W, W = wr.alloc (Obj.cells #[.string ⟨#[108, 101, 97, 118, 101]⟩, Value.func (.func 99) #[] #[.pointer (some ⟨g3, 0, none⟩)]] 105) := ⟨_, rfl⟩
      have bV : Below wr.heap.size wr V := by rw [hV]; exact below_new _ _
      have mV : Blk V wr.heap.size #[.string ⟨#[108, 101, 97, 118, 101]⟩, Value.func (.func 99) #[] #[.pointer (some ⟨g3, 0, none⟩)]] 105 := by rw [hV]; exact Blk.new0
      have zV := mV.lt
      have v0 : V.cell? ⟨wr.heap.size, 0, none⟩ = some (.string ⟨#[108, 101, 97, 118, 101]⟩) := mV.cell 0 _ rfl
      have v1 : V.cell? ⟨wr.heap.size, 1, none⟩ = some (Value.func (.func 99) #[] #[.pointer (some ⟨g3, 0, none⟩)]) := mV.cell 1 _ rfl
      have cx3 : V.cell? ⟨b, off, none⟩ = some (.string x) := (bV.cell (p := ⟨b, off, none⟩) hbw2).trans cx2
      have bw3 := bw.trans (bV.mono bw.size)
      have hzb : b < V.heap.size := Nat.lt_of_lt_of_le hbw2 bV.size
      have HK := hide ((k3.below hb).below bV)
      by_cases hm : x.toList = wd 2
      · have hme : (x.toList == [108, 101, 97, 118, 101]) = true := by rw [beq_iff_eq]; exact hm
        have hme2 : ([108, 101, 97, 118, 101] == x.toList) = true := by rw [beq_iff_eq]; exact hm.symm
        have HX := hide (unhide HQ0 2 (by omega) hm)
        clear P2 hP mV hm
        go_wp2_with fail
        rw [← hV]
        clear hV p0 p1 cx2 bV
        go_quiet (fail)
        go_wp2_with fail
        obtain ⟨U, hU⟩ : ∃ U, U = V.drewN nq := ⟨_, rfl⟩
        have bU : Below V.heap.size V U := by rw [hU]; exact below_drewN (Below.refl _ _) _
        rw [← hU]
        clear hU
        have bwU := bw3.trans (bU.mono bw3.size)
        have v1U := (bU.cell (p := ⟨wr.heap.size, 1, none⟩) zV).trans v1
        have zVU : wr.heap.size < U.heap.size := Nat.lt_of_lt_of_le zV bU.size
        have D0 : ∀ d : Grown U.heap.size U, d.w.cell? ⟨wr.heap.size, 1, none⟩ = some (Value.func (.func 99) #[] #[.pointer (some ⟨g3, 0, none⟩)]) := fun d => d.cell zVU v1U
        have HBN : Hid (∀ d : Grown U.heap.size U, Below w.heap.size w d.w) := fun d => bwU.trans (d.below.mono bwU.size)
        have AF1 := hide (fun d : Grown U.heap.size U => unhide AF 3 (by omega) g3 d.w (unhide HBN d) (((unhide HK).below bU).below d.below))
        have hx1 : (1 : Int) ≤ (0 : Int) + 1 := by omega
        clear v0 v1 v1U cx3 bU
        refine wp_region_grown U.heap.size (by kernel_rfl) (by kernel_rfl) ?_
        repeat (go_big_quiet_step (first | (go_at_call 99; exact Gr.Calls.grown (Nat.le_refl _) (unhide AF1 _))))
        refine wpQuiet_nil ?_
        rintro w5 ⟨d5, rfl⟩
        go_wp2
        go_ret2
        rw [unhide HX]
        exact ⟨rfl, unhide HBN d5⟩
      · have hme : (x.toList == [108, 101, 97, 118, 101]) = false := by rw [beq_eq_false_iff_ne]; exact hm
        have hme2 : ([108, 101, 97, 118, 101] == x.toList) = false := by rw [beq_eq_false_iff_ne]; exact fun e => hm e.symm
        have HNE2 : Hid (∀ j, j < 3 → x.toList ≠ wd j) := fun j hj => by
          rcases Nat.lt_or_ge j 2 with h1 | h1
          · exact unhide HNE j h1
          · obtain rfl : j = 2 := by omega
            exact hm
        have bwv := hb.trans (bV.mono hb.size)
        clear P2 hP mV hm
        go_wp2_with fail
        rw [← hV]
        clear hV p0 p1 cx2 bV
        go_quiet (fail)
        go_wp2
        go_roundw
        case rel => exact ⟨3, by go_num, by omega, HNE2, below_drewN bwv _⟩
        case measure => simp [intOf]
    · have p0 : wr.cell? ⟨p, 6, none⟩ = some (.string ⟨#[99, 108, 101, 97, 114]⟩) := P2.cell 6 _ rfl
      have p1 : wr.cell? ⟨p, 7, none⟩ = some (Value.func (.func 99) #[] #[.pointer (some ⟨g4, 0, none⟩)]) := P2.cell 7 _ rfl
      obtain ⟨V, hV⟩ : ∃ W, W = wr.alloc (Obj.cells #[.string ⟨#[99, 108, 101, 97, 114]⟩, Value.func (.func 99) #[] #[.pointer (some ⟨g4, 0, none⟩)]] 105) := ⟨_, rfl⟩
      have bV : Below wr.heap.size wr V := by rw [hV]; exact below_new _ _
      have mV : Blk V wr.heap.size #[.string ⟨#[99, 108, 101, 97, 114]⟩, Value.func (.func 99) #[] #[.pointer (some ⟨g4, 0, none⟩)]] 105 := by rw [hV]; exact Blk.new0
      have zV := mV.lt
      have v0 : V.cell? ⟨wr.heap.size, 0, none⟩ = some (.string ⟨#[99, 108, 101, 97, 114]⟩) := mV.cell 0 _ rfl
      have v1 : V.cell? ⟨wr.heap.size, 1, none⟩ = some (Value.func (.func 99) #[] #[.pointer (some ⟨g4, 0, none⟩)]) := mV.cell 1 _ rfl
      have cx3 : V.cell? ⟨b, off, none⟩ = some (.string x) := (bV.cell (p := ⟨b, off, none⟩) hbw2).trans cx2
      have bw3 := bw.trans (bV.mono bw.size)
      have hzb : b < V.heap.size := Nat.lt_of_lt_of_le hbw2 bV.size
      have HK := hide ((k4.below hb).below bV)
      by_cases hm : x.toList = wd 3
      · have hme : (x.toList == [99, 108, 101, 97, 114]) = true := by rw [beq_iff_eq]; exact hm
        have hme2 : ([99, 108, 101, 97, 114] == x.toList) = true := by rw [beq_iff_eq]; exact hm.symm
        have HX := hide (unhide HQ0 3 (by omega) hm)
        clear P2 hP mV hm
        go_wp2_with fail
        rw [← hV]
        clear hV p0 p1 cx2 bV
        go_quiet (fail)
        go_wp2_with fail
        obtain ⟨U, hU⟩ : ∃ U, U = V.drewN nq := ⟨_, rfl⟩
        have bU : Below V.heap.size V U := by rw [hU]; exact below_drewN (Below.refl _ _) _
        rw [← hU]
        clear hU
        have bwU := bw3.trans (bU.mono bw3.size)
        have v1U := (bU.cell (p := ⟨wr.heap.size, 1, none⟩) zV).trans v1
        have zVU : wr.heap.size < U.heap.size := Nat.lt_of_lt_of_le zV bU.size
        have D0 : ∀ d : Grown U.heap.size U, d.w.cell? ⟨wr.heap.size, 1, none⟩ = some (Value.func (.func 99) #[] #[.pointer (some ⟨g4, 0, none⟩)]) := fun d => d.cell zVU v1U
        have HBN : Hid (∀ d : Grown U.heap.size U, Below w.heap.size w d.w) := fun d => bwU.trans (d.below.mono bwU.size)
        have AF1 := hide (fun d : Grown U.heap.size U => unhide AF 4 (by omega) g4 d.w (unhide HBN d) (((unhide HK).below bU).below d.below))
        have hx1 : (1 : Int) ≤ (0 : Int) + 1 := by omega
        clear v0 v1 v1U cx3 bU
        refine wp_region_grown U.heap.size (by kernel_rfl) (by kernel_rfl) ?_
        repeat (go_big_quiet_step (first | (go_at_call 99; exact Gr.Calls.grown (Nat.le_refl _) (unhide AF1 _))))
        refine wpQuiet_nil ?_
        rintro w5 ⟨d5, rfl⟩
        go_wp2
        go_ret2
        rw [unhide HX]
        exact ⟨rfl, unhide HBN d5⟩
      · have hme : (x.toList == [99, 108, 101, 97, 114]) = false := by rw [beq_eq_false_iff_ne]; exact hm
        have hme2 : ([99, 108, 101, 97, 114] == x.toList) = false := by rw [beq_eq_false_iff_ne]; exact fun e => hm e.symm
        have HNE2 : Hid (∀ j, j < 4 → x.toList ≠ wd j) := fun j hj => by
          rcases Nat.lt_or_ge j 3 with h1 | h1
          · exact unhide HNE j h1
          · obtain rfl : j = 3 := by omega
            exact hm
        have bwv := hb.trans (bV.mono hb.size)
        clear P2 hP mV hm
        go_wp2_with fail
        rw [← hV]
        clear hV p0 p1 cx2 bV
        go_quiet (fail)
        go_wp2
        go_roundw
        case rel => exact ⟨4, by go_num, by omega, HNE2, below_drewN bwv _⟩
        case measure => simp [intOf]
    · have p0 : wr.cell? ⟨p, 8, none⟩ = some (.string ⟨#[97, 117, 100, 105, 116]⟩) := P2.cell 8 _ rfl
      have p1 : wr.cell? ⟨p, 9, none⟩ = some (Value.func (.func 99) #[] #[.pointer (some ⟨g5, 0, none⟩)]) := P2.cell 9 _ rfl
      obtain ⟨V, hV⟩ : ∃ W, W = wr.alloc (Obj.cells #[.string ⟨#[97, 117, 100, 105, 116]⟩, Value.func (.func 99) #[] #[.pointer (some ⟨g5, 0, none⟩)]] 105) := ⟨_, rfl⟩
      have bV : Below wr.heap.size wr V := by rw [hV]; exact below_new _ _
      have mV : Blk V wr.heap.size #[.string ⟨#[97, 117, 100, 105, 116]⟩, Value.func (.func 99) #[] #[.pointer (some ⟨g5, 0, none⟩)]] 105 := by rw [hV]; exact Blk.new0
      have zV := mV.lt
      have v0 : V.cell? ⟨wr.heap.size, 0, none⟩ = some (.string ⟨#[97, 117, 100, 105, 116]⟩) := mV.cell 0 _ rfl
      have v1 : V.cell? ⟨wr.heap.size, 1, none⟩ = some (Value.func (.func 99) #[] #[.pointer (some ⟨g5, 0, none⟩)]) := mV.cell 1 _ rfl
      have cx3 : V.cell? ⟨b, off, none⟩ = some (.string x) := (bV.cell (p := ⟨b, off, none⟩) hbw2).trans cx2
      have bw3 := bw.trans (bV.mono bw.size)
      have hzb : b < V.heap.size := Nat.lt_of_lt_of_le hbw2 bV.size
      have HK := hide ((k5.below hb).below bV)
      by_cases hm : x.toList = wd 4
      · have hme : (x.toList == [97, 117, 100, 105, 116]) = true := by rw [beq_iff_eq]; exact hm
        have hme2 : ([97, 117, 100, 105, 116] == x.toList) = true := by rw [beq_iff_eq]; exact hm.symm
        have HX := hide (unhide HQ0 4 (by omega) hm)
        clear P2 hP mV hm
        go_wp2_with fail
        rw [← hV]
        clear hV p0 p1 cx2 bV
        go_quiet (fail)
        go_wp2_with fail
        obtain ⟨U, hU⟩ : ∃ U, U = V.drewN nq := ⟨_, rfl⟩
        have bU : Below V.heap.size V U := by rw [hU]; exact below_drewN (Below.refl _ _) _
        rw [← hU]
        clear hU
        have bwU := bw3.trans (bU.mono bw3.size)
        have v1U := (bU.cell (p := ⟨wr.heap.size, 1, none⟩) zV).trans v1
        have zVU : wr.heap.size < U.heap.size := Nat.lt_of_lt_of_le zV bU.size
        have D0 : ∀ d : Grown U.heap.size U, d.w.cell? ⟨wr.heap.size, 1, none⟩ = some (Value.func (.func 99) #[] #[.pointer (some ⟨g5, 0, none⟩)]) := fun d => d.cell zVU v1U
        have HBN : Hid (∀ d : Grown U.heap.size U, Below w.heap.size w d.w) := fun d => bwU.trans (d.below.mono bwU.size)
        have AF1 := hide (fun d : Grown U.heap.size U => unhide AF 5 (by omega) g5 d.w (unhide HBN d) (((unhide HK).below bU).below d.below))
        have hx1 : (1 : Int) ≤ (0 : Int) + 1 := by omega
        clear v0 v1 v1U cx3 bU
        refine wp_region_grown U.heap.size (by kernel_rfl) (by kernel_rfl) ?_
        repeat (go_big_quiet_step (first | (go_at_call 99; exact Gr.Calls.grown (Nat.le_refl _) (unhide AF1 _))))
        refine wpQuiet_nil ?_
        rintro w5 ⟨d5, rfl⟩
        go_wp2
        go_ret2
        rw [unhide HX]
        exact ⟨rfl, unhide HBN d5⟩
      · have hme : (x.toList == [97, 117, 100, 105, 116]) = false := by rw [beq_eq_false_iff_ne]; exact hm
        have hme2 : ([97, 117, 100, 105, 116] == x.toList) = false := by rw [beq_eq_false_iff_ne]; exact fun e => hm e.symm
        have HNE2 : Hid (∀ j, j < 5 → x.toList ≠ wd j) := fun j hj => by
          rcases Nat.lt_or_ge j 4 with h1 | h1
          · exact unhide HNE j h1
          · obtain rfl : j = 4 := by omega
            exact hm
        have bwv := hb.trans (bV.mono hb.size)
        clear P2 hP mV hm
        go_wp2_with fail
        rw [← hV]
        clear hV p0 p1 cx2 bV
        go_quiet (fail)
        go_wp2
        go_roundw
        case rel => exact ⟨5, by go_num, by omega, HNE2, below_drewN bwv _⟩
        case measure => simp [intOf]
    · have p0 : wr.cell? ⟨p, 10, none⟩ = some (.string ⟨#[115, 104, 111, 119]⟩) := P2.cell 10 _ rfl
      have p1 : wr.cell? ⟨p, 11, none⟩ = some (Value.func (.func 99) #[] #[.pointer (some ⟨g6, 0, none⟩)]) := P2.cell 11 _ rfl
      obtain ⟨V, hV⟩ : ∃ W, W = wr.alloc (Obj.cells #[.string ⟨#[115, 104, 111, 119]⟩, Value.func (.func 99) #[] #[.pointer (some ⟨g6, 0, none⟩)]] 105) := ⟨_, rfl⟩
      have bV : Below wr.heap.size wr V := by rw [hV]; exact below_new _ _
      have mV : Blk V wr.heap.size #[.string ⟨#[115, 104, 111, 119]⟩, Value.func (.func 99) #[] #[.pointer (some ⟨g6, 0, none⟩)]] 105 := by rw [hV]; exact Blk.new0
      have zV := mV.lt
      have v0 : V.cell? ⟨wr.heap.size, 0, none⟩ = some (.string ⟨#[115, 104, 111, 119]⟩) := mV.cell 0 _ rfl
      have v1 : V.cell? ⟨wr.heap.size, 1, none⟩ = some (Value.func (.func 99) #[] #[.pointer (some ⟨g6, 0, none⟩)]) := mV.cell 1 _ rfl
      have cx3 : V.cell? ⟨b, off, none⟩ = some (.string x) := (bV.cell (p := ⟨b, off, none⟩) hbw2).trans cx2
      have bw3 := bw.trans (bV.mono bw.size)
      have hzb : b < V.heap.size := Nat.lt_of_lt_of_le hbw2 bV.size
      have HK := hide ((k6.below hb).below bV)
      by_cases hm : x.toList = wd 5
      · have hme : (x.toList == [115, 104, 111, 119]) = true := by rw [beq_iff_eq]; exact hm
        have hme2 : ([115, 104, 111, 119] == x.toList) = true := by rw [beq_iff_eq]; exact hm.symm
        have HX := hide (unhide HQ0 5 (by omega) hm)
        clear P2 hP mV hm
        go_wp2_with fail
        rw [← hV]
        clear hV p0 p1 cx2 bV
        go_quiet (fail)
        go_wp2_with fail
        obtain ⟨U, hU⟩ : ∃ U, U = V.drewN nq := ⟨_, rfl⟩
        have bU : Below V.heap.size V U := by rw [hU]; exact below_drewN (Below.refl _ _) _
        rw [← hU]
        clear hU
        have bwU := bw3.trans (bU.mono bw3.size)
        have v1U := (bU.cell (p := ⟨wr.heap.size, 1, none⟩) zV).trans v1
        have zVU : wr.heap.size < U.heap.size := Nat.lt_of_lt_of_le zV bU.size
        have D0 : ∀ d : Grown U.heap.size U, d.w.cell? ⟨wr.heap.size, 1, none⟩ = some (Value.func (.func 99) #[] #[.pointer (some ⟨g6, 0, none⟩)]) := fun d => d.cell zVU v1U
        have HBN : Hid (∀ d : Grown U.heap.size U, Below w.heap.size w d.w) := fun d => bwU.trans (d.below.mono bwU.size)
        have AF1 := hide (fun d : Grown U.heap.size U => unhide AF 6 (by omega) g6 d.w (unhide HBN d) (((unhide HK).below bU).below d.below))
        have hx1 : (1 : Int) ≤ (0 : Int) + 1 := by omega
        clear v0 v1 v1U cx3 bU
        refine wp_region_grown U.heap.size (by kernel_rfl) (by kernel_rfl) ?_
        repeat (go_big_quiet_step (first | (go_at_call 99; exact Gr.Calls.grown (Nat.le_refl _) (unhide AF1 _))))
        refine wpQuiet_nil ?_
        rintro w5 ⟨d5, rfl⟩
        go_wp2
        go_ret2
        rw [unhide HX]
        exact ⟨rfl, unhide HBN d5⟩
      · have hme : (x.toList == [115, 104, 111, 119]) = false := by rw [beq_eq_false_iff_ne]; exact hm
        have hme2 : ([115, 104, 111, 119] == x.toList) = false := by rw [beq_eq_false_iff_ne]; exact fun e => hm e.symm
        have HNE2 : Hid (∀ j, j < 6 → x.toList ≠ wd j) := fun j hj => by
          rcases Nat.lt_or_ge j 5 with h1 | h1
          · exact unhide HNE j h1
          · obtain rfl : j = 5 := by omega
            exact hm
        have bwv := hb.trans (bV.mono hb.size)
        clear P2 hP mV hm
        go_wp2_with fail
        rw [← hV]
        clear hV p0 p1 cx2 bV
        go_quiet (fail)
        go_wp2
        go_roundw
        case rel => exact ⟨6, by go_num, by omega, HNE2, below_drewN bwv _⟩
        case measure => simp [intOf]
    · have p0 : wr.cell? ⟨p, 12, none⟩ = some (.string ⟨#[114, 97, 119]⟩) := P2.cell 12 _ rfl
      have p1 : wr.cell? ⟨p, 13, none⟩ = some (Value.func (.func 87) #[] #[]) := P2.cell 13 _ rfl
      obtain ⟨V, hV⟩ : ∃ W, W = wr.alloc (Obj.cells #[.string ⟨#[114, 97, 119]⟩, Value.func (.func 87) #[] #[]] 105) := ⟨_, rfl⟩
      have bV : Below wr.heap.size wr V := by rw [hV]; exact below_new _ _
      have mV : Blk V wr.heap.size #[.string ⟨#[114, 97, 119]⟩, Value.func (.func 87) #[] #[]] 105 := by rw [hV]; exact Blk.new0
      have zV := mV.lt
      have v0 : V.cell? ⟨wr.heap.size, 0, none⟩ = some (.string ⟨#[114, 97, 119]⟩) := mV.cell 0 _ rfl
      have v1 : V.cell? ⟨wr.heap.size, 1, none⟩ = some (Value.func (.func 87) #[] #[]) := mV.cell 1 _ rfl
      have cx3 : V.cell? ⟨b, off, none⟩ = some (.string x) := (bV.cell (p := ⟨b, off, none⟩) hbw2).trans cx2
      have bw3 := bw.trans (bV.mono bw.size)
      have hzb : b < V.heap.size := Nat.lt_of_lt_of_le hbw2 bV.size
      by_cases hm : x.toList = wd 6
      · have hme : (x.toList == [114, 97, 119]) = true := by rw [beq_iff_eq]; exact hm
        have hme2 : ([114, 97, 119] == x.toList) = true := by rw [beq_iff_eq]; exact hm.symm
        have HX := hide (unhide HQ1 hm)
        clear P2 hP mV hm
        go_wp2_with fail
        rw [← hV]
        clear hV p0 p1 cx2 bV
        go_quiet (fail)
        go_wp2_with fail
        obtain ⟨U, hU⟩ : ∃ U, U = V.drewN nq := ⟨_, rfl⟩
        have bU : Below V.heap.size V U := by rw [hU]; exact below_drewN (Below.refl _ _) _
        rw [← hU]
        clear hU
        have bwU := bw3.trans (bU.mono bw3.size)
        have v1U := (bU.cell (p := ⟨wr.heap.size, 1, none⟩) zV).trans v1
        have zVU : wr.heap.size < U.heap.size := Nat.lt_of_lt_of_le zV bU.size
        have D0 : ∀ d : Grown U.heap.size U, d.w.cell? ⟨wr.heap.size, 1, none⟩ = some (Value.func (.func 87) #[] #[]) := fun d => d.cell zVU v1U
        have HBN : Hid (∀ d : Grown U.heap.size U, Below w.heap.size w d.w) := fun d => bwU.trans (d.below.mono bwU.size)
        have AF1 := hide (fun d : Grown U.heap.size U => unhide RF d.w (unhide HBN d))
        have hx1 : (1 : Int) ≤ (0 : Int) + 1 := by omega
        clear v0 v1 v1U cx3 bU
        refine wp_region_grown U.heap.size (by kernel_rfl) (by kernel_rfl) ?_
        repeat (go_big_quiet_step (first | (go_at_call 87; exact Gr.Calls.grown (Nat.le_refl _) (unhide AF1 _))))
        refine wpQuiet_nil ?_
        rintro w5 ⟨d5, rfl⟩
        go_wp2
        go_ret2
        rw [unhide HX]
        exact ⟨rfl, unhide HBN d5⟩
      · have hme : (x.toList == [114, 97, 119]) = false := by rw [beq_eq_false_iff_ne]; exact hm
        have hme2 : ([114, 97, 119] == x.toList) = false := by rw [beq_eq_false_iff_ne]; exact fun e => hm e.symm
        have HNE2 : Hid (∀ j, j < 7 → x.toList ≠ wd j) := fun j hj => by
          rcases Nat.lt_or_ge j 6 with h1 | h1
          · exact unhide HNE j h1
          · obtain rfl : j = 6 := by omega
            exact hm
        have bwv := hb.trans (bV.mono hb.size)
        clear P2 hP mV hm
        go_wp2_with fail
        rw [← hV]
        clear hV p0 p1 cx2 bV
        go_quiet (fail)
        go_wp2
        go_roundw
        case rel => exact ⟨7, by go_num, by omega, HNE2, below_drewN bwv _⟩
        case measure => simp [intOf]
    · have HX := hide (unhide HQ2 (unhide HNE))
      clear P2 hP
      go_wp2
      go_ret2
      rw [unhide HX]
      exact ⟨rfl, bw⟩

set_option maxRecDepth 100000 in
theorem implCmd0 (a : Option Addr) (c : Nat) (w : World) :
    Calls Tryz.prog 55 #[.slice a 0 c] w fun e w' => TextPost e none ∧ Below w.heap.size w w' := by
  go_enter Tryz.func55, Tryz.ntmps55
  go_wp2
  go_ret2
  exact ⟨rfl, Below.refl _ _⟩

theorem implCmdText (a : Option Addr) (c B T : Nat) (L : List ByteArray) (hL : L.length ≤ 8) (hc : L.length ≤ c) (hsz : ∀ y ∈ L, y.size ≤ 400) (w : World) (hB : B ≤ w.heap.size) (h : txAt w a B L) (hT : T ≤ w.heap.size) (ht : Tb T w) :
    Calls Tryz.prog 55 #[.slice a L.length c] w fun e w' => TextPost e (textM L) ∧ Below w.heap.size w w' := by
  match L, hL, hc, hsz, h with
  | [], _, _, _, _ => exact implCmd0 a c w
  | x :: r, hL, hc, hsz, h =>
    obtain ⟨b, off, rfl, _, _⟩ := h 0 (by simp)
    simp only [List.length_cons] at hL hc ⊢
    by_cases hc1 : c = 1
    · subst hc1
      exact implCmd1 x r b off B T (by omega) (by omega) hsz w hB h hT ht
    · exact implCmd2 x r b off c B T (by omega) hc hc1 hsz w hB h hT ht

end Sc
end Go.Proofs.YtjhnippfepbjmaaGreatDoor
