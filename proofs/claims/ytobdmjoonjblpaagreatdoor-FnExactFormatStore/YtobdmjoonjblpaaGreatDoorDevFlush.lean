/-
  The contract of spec.FlushDevice.
-/
import Derived.Test.YtobdmjoonjblpaaGreatDoorDevNew
import Derived.Test.YtobdmjoonjblpaaGreatDoorDevReadImpl
import Derived.Deep.AppendLies
import Derived.Laws.ResultCell
import Derived.Deep.RegionHeld3
namespace Go.Proofs.YtobdmjoonjblpaaGreatDoor
open Go.RowKit

/-- Some sectors with some puts done, in order. -/
def flushL (L : List ByteArray) (Q : List (Int × ByteArray)) : List ByteArray := Q.foldl (fun L q => L.set q.1.toNat q.2) L

theorem flushL_length (L : List ByteArray) (Q : List (Int × ByteArray)) : (flushL L Q).length = L.length := by
  unfold flushL
  induction Q generalizing L with
  | nil => rfl
  | cons q Q ih => simp only [List.foldl_cons]; rw [ih]; simp

theorem flushL_snoc (L : List ByteArray) (Q : List (Int × ByteArray)) (j : Nat) (h : j < Q.length) : flushL L (Q.take (j + 1)) = (flushL L (Q.take j)).set Q[j].1.toNat Q[j].2 := by
  unfold flushL
  rw [List.take_succ_eq_append_getElem h, List.foldl_append]
  rfl

theorem strs_news {w : World} {b off n B : Nat} {L : List ByteArray} (h : StrsAt w (some ⟨b, off, none⟩) n B L) : ∀ j u, (strsV L)[j]? = some u → w.cell? ((⟨b, off, none⟩ : Addr).add j) = some u := fun j u hu => by
  have hj : j < L.length := by
    rcases Nat.lt_or_ge j L.length with h1 | h1
    · exact h1
    · rw [List.getElem?_eq_none (by simp [strsV]; exact h1)] at hu; cases hu
  obtain ⟨b', off', e, _, hc⟩ := h.2 j hj
  simp at e
  obtain ⟨rfl, rfl⟩ := e
  rw [Addr.add_lit, hc, ← hu]
  simp [strsV, hj]

theorem strs_one (L : List ByteArray) : ∀ u ∈ strsV L, u.oneCell' = true := fun u hu => by
  simp [strsV] at hu
  obtain ⟨s, _, rfl⟩ := hu
  rfl

theorem StrsAt.some_of {w : World} {a : Option Addr} {n B : Nat} {L : List ByteArray} (h : StrsAt w a n B L) (hn : 1 ≤ n) : ∃ b off, a = some ⟨b, off, none⟩ ∧ b < B := by
  obtain ⟨b, off, e, hb, _⟩ := h.2 0 (by rw [h.1]; omega)
  exact ⟨b, off, e, hb⟩

theorem grown_box {w w' : World} {row : Option Nat} {g : Nat} {a b : Value} (h : Box w g a b) (hg : w.grownBy w' row) (hr : row ≠ some g) : Box w' g a b := by
  unfold Box; rw [hg.block g h.lt (fun e => hr e.symm)]; exact h

theorem results_box {fn : Func} {p u : Tmp} (h : fn.results = #[.cell p 25, .tmp u]) (tmps : Array Value) (w : World) (g : Nat) (a b : Value) (hp : tmps.getD p undef = .pointer (some ⟨g, 0, none⟩)) (hg : Box w g a b) :
    (results fn tmps).run Tryz.prog w = .ok (.tuple #[.agg #[a, b], tmps.getD u undef]) w := by
  have hr := run_loadVar_row (P := Tryz.prog) w g 25 25 #[a, b] (0, 0) _ hg Tryz.underlying25 rfl (by kernel_rfl)
  rw [results_cell_tmp h, hp]
  simp [asAddr, hr, Result.andThen]

theorem Box.two {w : World} {g : Nat} {a b : Value} (h : Box w g a b) (x y : Value) : Box ((w.setCell ⟨g, 0, none⟩ x).setCell ⟨g, 1, none⟩ y) g x y :=
  two_one (two_zero h x) y

theorem Box.froz {w : World} {g : Nat} {a b : Value} (h : Box w g a b) (j : Nat) : w.frozen? ⟨g, j, none⟩ = false := (cells_of_two h).2.2 j

set_option maxRecDepth 100000 in
set_option maxHeartbeats 4000000 in
theorem specFlush_yes (v : Value) (B : Nat) (L : List ByteArray) (Q : List (Int × ByteArray)) (hok : devOk L Q = true) (w : World) (hB : B ≤ w.heap.size) (hv : DevAt w v B L Q) :
    Calls Tryz.prog 67 #[v] w fun e w' => DevPost w (flushL L Q) [] true e w' := by
  have hds := devOk_sec hok
  have OK := hide (fun w1 (hb : Below w.heap.size w w1) => specDev_any v B L Q (by omega) (by omega) (fun s hs => by have := hds.2.2.2.1 s hs; omega) w1 (by have := hb.size; omega) (hv.below hb hB))
  rw [hok] at OK
  obtain ⟨i0, hi, hz0, hz1, hz2⟩ := info_parts info9
  obtain ⟨a, n, c, a', n', c', rfl, hL, hQ⟩ := hv
  have e1 := hL.1
  obtain ⟨e2, hQc⟩ := hQ
  obtain ⟨b, off, rfl, hbB⟩ := hL.some_of (by omega)
  have hn1 : 1 ≤ n := by omega
  have hn4 : n ≤ 400 := by omega
  have hn4' : n' ≤ 400 := by omega
  have HQ0 := hide hds.2.2.2.2
  have HQC := hide hQc
  have HL := hide hL
  have HN := hide e1
  have HN' := hide e2
  clear hds hok hQc hL e1 e2
  go_enter Tryz.func67, Tryz.ntmps67
  go_wp2_with fail
  obtain ⟨W2, hW2⟩ : ∃ W, W = (w.alloc (Obj.cells #[Value.slice (some ⟨b, off, none⟩) n c, Value.slice a' n' c'] 25)).alloc (Obj.cells #[Value.slice none 0 0, Value.slice none 0 0] 25) := ⟨_, rfl⟩
  rw [← hW2]
  have hb2 : Below w.heap.size w W2 := by rw [hW2]; exact ((Below.refl _ _).alloc (Nat.le_refl _) _).alloc (by simp) _
  have hs2 : W2.heap.size = w.heap.size + 2 := by rw [hW2]; simp
  have hx2 : Box W2 w.heap.size (Value.slice (some ⟨b, off, none⟩) n c) (Value.slice a' n' c') := by rw [hW2]; exact (Box.new _ _ _).below (below_new _ _)
  have hr2 : Box W2 (w.heap.size + 1) (Value.slice none 0 0) (Value.slice none 0 0) := by
    have h := Box.new (w.alloc (Obj.cells #[Value.slice (some ⟨b, off, none⟩) n c, Value.slice a' n' c'] 25)) (Value.slice none 0 0) (Value.slice none 0 0)
    rw [hW2]
    simpa using h
  clear hW2
  refine (unhide OK W2 hb2).mono ?_
  rintro e w3 ⟨rfl, hb3⟩
  have hx3 := hx2.below hb3
  have hr3 := hr2.below hb3
  have hc3 : Below w.heap.size w w3 := hb2.trans (hb3.mono hb2.size)
  have hs3 := hb3.size
  obtain ⟨p0, p1⟩ := (hx3.below (below_new w3 (Obj.cells #[] 9))).cells
  have hnews := strs_news ((unhide HL).below (hc3.alloc hc3.size (Obj.cells #[] 9)) hB)
  have hlen : (strsV L).length = n * 1 := by have := unhide HN; simp [strsV]; omega
  have hown0 : (w3.alloc (.cells #[] 9)).ownsRow w.heap.size 9 1 (.slice (some ⟨w3.heap.size, 0, none⟩) 0 0) 0 [] := World.ownsRow_made w3 #[] 0 (by omega) (Nat.zero_le _) rfl
  have HX3 := hide hx3
  have HR3 := hide hr3
  clear hb3 hx2 hr2 hb2 hx3 hr3
  go_wp2_with (at_builtin; refine wpList_append_lies _ rfl _ _ 22 rfl w.heap.size 9 i0 (.string ⟨#[]⟩) 1 16 Tryz.underlying22 hi hz0 hz1 hz2 rfl (by decide) _ 0 [] rfl hown0 ⟨b, off, none⟩ n c (strsV L) rfl hlen hnews (strs_one L) hn1 (by unfold maxLen; omega) (by omega) (by simp; omega) (w3.heap.size + 1) (by simp) ?_)
  intro g cap w4 hown4 hgrow4 hat4 hlt4
  have hg : w3.heap.size ≤ g := by
    rcases hat4 with h | h
    · simp [Value.ownBlock] at h; omega
    · omega
  have hc4 : Below w.heap.size w w4 := (hc3.alloc hc3.size _).grown hgrow4 (by simp; omega) (fun k hk => by simp [Value.ownBlock] at hk; omega)
  have HX4 := hide (grown_box ((unhide HX3).below (below_new w3 (Obj.cells #[] 9))) hgrow4 (by simp [Value.ownBlock]; omega))
  have HR4 := hide (grown_box ((unhide HR3).below (below_new w3 (Obj.cells #[] 9))) hgrow4 (by simp [Value.ownBlock]; omega))
  have HO4 := hide hown4
  have hs4 : w3.heap.size ≤ w4.heap.size := by have := hgrow4.size; simp at this; omega
  clear hown4 hgrow4 hat4 hown0 hnews hlen p0 p1 HX3 HR3 hc3
  go_wp2_with fail
  obtain ⟨W5, hW5⟩ : ∃ W, W = w4.alloc (Obj.cells #[Value.slice (some ⟨g, 0, none⟩) n cap, Value.slice none 0 0] 25) := ⟨_, rfl⟩
  rw [← hW5]
  have hb5 : Below w4.heap.size w4 W5 := by rw [hW5]; exact below_new _ _
  have hs5 : W5.heap.size = w4.heap.size + 1 := by rw [hW5]; simp
  have HY5 : Hid (Box W5 w4.heap.size (Value.slice (some ⟨g, 0, none⟩) n cap) (Value.slice none 0 0)) := by show Box _ _ _ _; rw [hW5]; exact Box.new _ _ _
  have HX5 := hide ((unhide HX4).below hb5)
  have HR5 := hide ((unhide HR4).below hb5)
  have HO5 := hide (own_below (unhide HO4) hb5)
  have hc5 : Below w.heap.size w W5 := hc4.trans (hb5.mono hc4.size)
  clear hW5 HX4 HR4 HO4 hb5 hc4
  go_loopw [5] (fun a5 wr => ∃ j : Nat, a5 = .int .i64 j ∧ j ≤ n' ∧ wr.ownsRow w.heap.size 9 1 (.slice (some ⟨g, 0, none⟩) n cap) n (strsV (flushL L (Q.take j))) ∧ Kept (fun k => k = g) W5 wr) (fun a5 _ => n' - (intOf a5).toNat)
  case atStart => exact ⟨0, rfl, Nat.zero_le _, unhide HO5, Kept.refl _ _⟩
  case round =>
    obtain ⟨j, rfl, hj, hown, hkp⟩ := hrel
    have hx := (unhide HX5).kept hkp (by omega)
    have hy := (unhide HY5).kept hkp (by omega)
    have hr := (unhide HR5).kept hkp (by omega)
    have hcw : Below w.heap.size w wr := hc5.trans (hkp.below hc5.size (fun k hk => by omega))
    obtain ⟨x0, x1⟩ := hx.cells
    obtain ⟨y0, y1⟩ := hy.cells
    by_cases hlt : j < n'
    · have hjQ : j < Q.length := by have := unhide HN'; omega
      obtain ⟨b', off', rfl, hbB', hq0, hq1⟩ := unhide HQC j hjQ
      rw [← hcw.cell (p := ⟨b', off' + j * 2, none⟩) (by simp; omega)] at hq0
      rw [← hcw.cell (p := ⟨b', off' + j * 2 + 1, none⟩) (by simp; omega)] at hq1
      have hqq := unhide HQ0 _ (List.getElem_mem hjQ)
      have HF := hide (flushL_snoc L Q j hjQ)
      have hi0 : (0 : Int) ≤ (j : Int) := by omega
      have hi1 : (j : Int) < (n' : Int) := by omega
      generalize Q[j] = q at hq0 hq1 hqq HF
      obtain ⟨x, s⟩ := q
      simp only at hq0 hq1 hqq HF
      obtain ⟨k, rfl⟩ := Int.eq_ofNat_of_zero_le hqq.1
      have hkn : k < n := by have := unhide HN; omega
      have hk0 : (0 : Int) ≤ (k : Int) := by omega
      have hk1 : (k : Int) < (n : Int) := by omega
      have hce := hown.cellAt k (by omega)
      have hle : k < (flushL L (Q.take j)).length := by rw [flushL_length]; have := unhide HN; omega
      have hce2 : (strsV (flushL L (Q.take j)))[k]? = some (.string (flushL L (Q.take j))[k]) := by simp [strsV, hle]
      rw [hce2] at hce
      have hfz := hown.frozenAt k
      have hst := (hown.stored k (.string s)).1
      have hF := unhide HF
      rw [Int.toNat_natCast] at hF
      rw [strsV_set, ← hF] at hst
      have HST := hide hst
      have HKP := hide hkp
      generalize (flushL L (Q.take j))[k] = z at hce
      clear hst hown hce2 hle HF hF hqq hkp hx hy hr y1 x0
      go_wp2_with fail
      go_big_region
      go_wp2
      go_roundw
      case rel => exact ⟨j + 1, by go_num, by omega, unhide HST, ((unhide HKP).trans (Kept.set wr g k (.string s) rfl)).drew⟩
      case measure => simp [intOf]; omega
    · obtain rfl : j = n' := by omega
      have HO := hide hown
      have HR := hide hr
      obtain ⟨q0, q1⟩ := hr.cells
      have f0 := hr.froz 0
      have f1 := hr.froz 1
      clear hown hr hx hy hkp
      go_wp2
      (try simp only [Exit.inBlock, Exit.then])
      refine bodyPost_ret (results_box Tryz.results67 _ _ (w.heap.size + 1) _ _ rfl ((unhide HR).two _ _)) rfl ?_
      have hfl : (flushL L Q).length = n := by rw [flushL_length]; exact unhide HN
      have hown := unhide HO
      rw [List.take_of_length_le (by have := unhide HN'; omega)] at hown
      have hne : (Value.slice (some ⟨g, 0, none⟩) n cap).ownBlock ≠ some (w.heap.size + 1) := by simp [Value.ownBlock]; omega
      refine ⟨⟨_, rfl, _, _, rfl, ?_, ⟨rfl, .inl ⟨rfl, rfl⟩⟩, .inl (by simp [Value.ownBlock])⟩, (hcw.setCell (p := ⟨w.heap.size + 1, 0, none⟩) (by simp) _).setCell (p := ⟨w.heap.size + 1, 1, none⟩) (by simp) _⟩
      rw [hfl]
      exact ownsRow_setCell_other (ownsRow_setCell_other hown hne _) hne _

set_option maxRecDepth 100000 in
theorem specFlush_no (v : Value) (B : Nat) (L : List ByteArray) (Q : List (Int × ByteArray)) (hok : devOk L Q = false) (h1 : L.length ≤ 1048576) (h2 : Q.length ≤ 1048576) (hm : ∀ s ∈ L, s.size ≤ 9223372036854775807) (w : World) (hB : B ≤ w.heap.size) (hv : DevAt w v B L Q) :
    Calls Tryz.prog 67 #[v] w fun e w' => DevPost w [] [] false e w' := by
  have OK := hide (fun w1 (hb : Below w.heap.size w w1) => specDev_any v B L Q h1 h2 hm w1 (by have := hb.size; omega) (hv.below hb hB))
  rw [hok] at OK
  obtain ⟨a, n, c, a', n', c', rfl, hL, hQ⟩ := hv
  clear hL hQ hm h1 h2
  go_enter Tryz.func67, Tryz.ntmps67
  go_wp2_with fail
  obtain ⟨W2, hW2⟩ : ∃ W, W = (w.alloc (Obj.cells #[Value.slice a n c, Value.slice a' n' c'] 25)).alloc (Obj.cells #[Value.slice none 0 0, Value.slice none 0 0] 25) := ⟨_, rfl⟩
  rw [← hW2]
  have hb2 : Below w.heap.size w W2 := by rw [hW2]; exact ((Below.refl _ _).alloc (Nat.le_refl _) _).alloc (by simp) _
  have hr2 : Box W2 (w.heap.size + 1) (Value.slice none 0 0) (Value.slice none 0 0) := by
    have h := Box.new (w.alloc (Obj.cells #[Value.slice a n c, Value.slice a' n' c'] 25)) (Value.slice none 0 0) (Value.slice none 0 0)
    rw [hW2]
    simpa using h
  clear hW2
  refine (unhide OK W2 hb2).mono ?_
  rintro e w3 ⟨rfl, hb3⟩
  have hr := hr2.below hb3
  have HR := hide hr
  have hcw : Below w.heap.size w w3 := hb2.trans (hb3.mono hb2.size)
  obtain ⟨q0, q1⟩ := hr.cells
  have f0 := hr.froz 0
  have f1 := hr.froz 1
  clear hr hb3 hr2 hb2
  go_wp2
  (try simp only [Exit.inBlock, Exit.then])
  refine bodyPost_ret (results_box Tryz.results67 _ _ (w.heap.size + 1) _ _ rfl ((unhide HR).two _ _)) rfl ?_
  exact ⟨⟨_, rfl, devNil _ _⟩, (hcw.setCell (p := ⟨w.heap.size + 1, 0, none⟩) (by simp) _).setCell (p := ⟨w.heap.size + 1, 1, none⟩) (by simp) _⟩

/-- What FlushDevice answers. -/
def flushA (L : List ByteArray) (Q : List (Int × ByteArray)) : List ByteArray := if devOk L Q = true then flushL L Q else []

theorem specFlush_any (v : Value) (B : Nat) (L : List ByteArray) (Q : List (Int × ByteArray)) (h1 : L.length ≤ 1048576) (h2 : Q.length ≤ 1048576) (hm : ∀ s ∈ L, s.size ≤ 9223372036854775807) (w : World) (hB : B ≤ w.heap.size) (hv : DevAt w v B L Q) :
    Calls Tryz.prog 67 #[v] w fun e w' => DevPost w (flushA L Q) [] (devOk L Q) e w' := by
  unfold flushA
  cases hok : devOk L Q
  · exact specFlush_no v B L Q hok h1 h2 hm w hB hv
  · exact specFlush_yes v B L Q hok w hB hv
end Go.Proofs.YtobdmjoonjblpaaGreatDoor
