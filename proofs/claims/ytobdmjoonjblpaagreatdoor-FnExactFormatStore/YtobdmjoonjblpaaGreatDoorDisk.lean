/-
  The contracts of impl.diskOf, (impl.disk).put and (impl.disk).device: sectors behind pointers in a map.
-/
import Derived.Test.YtobdmjoonjblpaaGreatDoorPtrMap
import Derived.Test.YtobdmjoonjblpaaGreatDoorDevFlush
namespace Go.Proofs.YtobdmjoonjblpaaGreatDoor
open Go.RowKit Go.Maps

theorem DevOwn.set_far {w : World} {B g : Nat} {v : Value} {L : List ByteArray} {Q : List (Int × ByteArray)} (h : DevOwn w B v L Q) (hg : g < B) (j : Nat) (u : Value) : DevOwn (w.setCell ⟨g, j, none⟩ u) B v L Q :=
  h.kept (S := fun k => k = g) (Kept.set w g j u rfl) (fun k hk e => by have := h.blk k hk; omega)

theorem DevOwn.lower {w : World} {B C : Nat} {v : Value} {L : List ByteArray} {Q : List (Int × ByteArray)} (h : DevOwn w B v L Q) (hC : C ≤ B) : DevOwn w C v L Q := by
  obtain ⟨v0, v1, rfl, h0, h1, h2⟩ := h
  exact ⟨v0, v1, rfl, own_lower hC h0, own_lower hC h1, h2⟩

/-- What the map of a disk of n sectors holds: the sector at i lies in block m + 1 + i. -/
def secs (m n : Nat) : Int → Option Nat := fun x => if 0 ≤ x ∧ x < (n : Int) then some (m + 1 + x.toNat) else none

theorem secs_at (m n i : Nat) (h : i < n) : secs m n (i : Int) = some (m + 1 + i) := by
  unfold secs
  rw [if_pos (by omega)]
  simp

theorem secs_succ (m n : Nat) : upd (secs m n) (n : Int) (some (m + 1 + n)) = secs m (n + 1) := by
  funext x
  unfold upd secs
  by_cases h : x = (n : Int)
  · subst h
    rw [if_pos rfl, if_pos (by omega)]
    simp
  · rw [if_neg h]
    by_cases h2 : 0 ≤ x ∧ x < (n : Int)
    · rw [if_pos h2, if_pos (by omega)]
    · rw [if_neg h2, if_neg (by omega)]

/-- Sectors behind pointers, in the map in block m. -/
def Disk (w : World) (m : Nat) (L : List ByteArray) : Prop :=
  PtrMap w m L.length (secs m L.length) L.length ∧ ∀ i (h : i < L.length), w.heap[m + 1 + i]? = some (.cells #[.string L[i]] 198 (0, 0))

theorem Disk.size {w : World} {m : Nat} {L : List ByteArray} (h : Disk w m L) : m + L.length < w.heap.size := by
  obtain ⟨hp, hs⟩ := h
  rcases Nat.eq_zero_or_pos L.length with h0 | h0
  · have := hp.lt; omega
  · have h1 := hs (L.length - 1) (by omega)
    rcases Nat.lt_or_ge (m + 1 + (L.length - 1)) w.heap.size with h2 | h2
    · omega
    · rw [Array.getElem?_eq_none h2] at h1; cases h1

theorem Disk.kept {S : Nat → Prop} {w w' : World} {m : Nat} {L : List ByteArray} (h : Disk w m L) (hk : Kept S w w') (hS : ∀ g, m ≤ g → g ≤ m + L.length → ¬ S g) : Disk w' m L := by
  have hsz := h.size
  obtain ⟨hp, hs⟩ := h
  refine ⟨hp.kept hk (hS m (Nat.le_refl _) (by omega)), fun i hi => ?_⟩
  rw [hk.2.2.2.2 (m + 1 + i) (by omega) (hS _ (by omega) (by omega))]
  exact hs i hi

theorem Disk.below {w w' : World} {m : Nat} {L : List ByteArray} (h : Disk w m L) (hb : Below w.heap.size w w') : Disk w' m L :=
  h.kept (S := fun _ => False) (Kept.of_below hb) (by simp)

theorem zeroSec (w : World) : (zeroValue 196).run Tryz.prog w = .ok (.pointer none) w := by kernel_rfl

theorem wf_small (k : Nat) (h : k ≤ 1048576) : (Lit.int .i64 (k : Int)).wf = true := WalkArith.wf_i64 (by omega)

theorem Disk.look {w : World} {m : Nat} {L : List ByteArray} (h : Disk w m L) (i : Nat) (hi : i < L.length) (hl : L.length ≤ 1048576) :
    (Instr.lookup 139 (.map (some m)) (.int .i64 (i : Int)) false).run Tryz.prog w = .ok (.pointer (some ⟨m + 1 + i, 0, none⟩)) w := by
  obtain ⟨hp, hs⟩ := h
  have h := hp.look Tryz.underlying139 (zeroSec w) (i : Int) (wf_small i (by omega))
  rw [secs_at m _ i hi] at h
  exact h

theorem cells_of_one {w : World} {g : Nat} {x : Value} {t : TypeId} (h : w.heap[g]? = some (.cells #[x] t (0, 0))) :
    w.cell? ⟨g, 0, none⟩ = some x ∧ w.frozen? ⟨g, 0, none⟩ = false := by
  refine ⟨?_, ?_⟩
  · rw [cell_of_row w g 0 _ t (0, 0) h]; rfl
  · exact frozen_of_row w g 0 _ t h

theorem Disk.set {w : World} {m : Nat} {L : List ByteArray} (h : Disk w m L) (k : Nat) (hk : k < L.length) (s : ByteArray) : Disk (w.setCell ⟨m + 1 + k, 0, none⟩ (.string s)) m (L.set k s) := by
  obtain ⟨hp, hs⟩ := h
  have hkp : Kept (fun g => g = m + 1 + k) w (w.setCell ⟨m + 1 + k, 0, none⟩ (.string s)) := Kept.set w (m + 1 + k) 0 _ rfl
  refine ⟨?_, fun i hi => ?_⟩
  · rw [List.length_set]
    exact hp.kept hkp (by omega)
  · rw [List.length_set] at hi
    by_cases he : i = k
    · subst he
      have h1 := heap_setCell_same w (m + 1 + i) 0 _ 198 (.string s) (hs i hk)
      rw [h1]
      simp
    · rw [heap_setCell_other _ _ _ _ (by simp; omega), hs i hi]
      simp [Ne.symm he]

theorem secs_zero (m : Nat) : secs m 0 = fun _ => none := by
  funext x
  unfold secs
  rw [if_neg (by omega)]

theorem secs_none (m n : Nat) : secs m n (n : Int) = none := by
  unfold secs
  rw [if_neg (by omega)]

theorem Disk.grow {w w' : World} {m : Nat} {L : List ByteArray} {s : ByteArray} (h : Disk w m L) (hm : w.heap.size = m + 1 + L.length) (hk : Kept (fun g => g = m) (w.alloc (Obj.cells #[.string s] 198)) w')
    (hp : PtrMap w' m (L.length + 1) (upd (secs m L.length) (L.length : Int) (some w.heap.size)) (L.length + 1)) : Disk w' m (L ++ [s]) := by
  have e : (L ++ [s]).length = L.length + 1 := by simp
  rw [hm, secs_succ] at hp
  refine ⟨by rw [e]; exact hp, fun i hi => ?_⟩
  rw [e] at hi
  rw [hk.2.2.2.2 (m + 1 + i) (by simp; omega) (by omega)]
  by_cases he : i = L.length
  · subst he
    have h1 := heap_alloc_new w (Obj.cells #[.string s] 198)
    rw [hm] at h1
    rw [h1]
    simp
  · rw [(below_new w (Obj.cells #[.string s] 198)).block (m + 1 + i) (by omega), h.2 i (by omega)]
    simp [List.getElem_append_left (show i < L.length by omega)]

set_option maxRecDepth 100000 in
set_option maxHeartbeats 1000000 in
theorem diskOf_any (a : Option Addr) (n c B : Nat) (L : List ByteArray) (hn : n ≤ 1048576) (w : World) (hB : B ≤ w.heap.size) (hs : StrsAt w a n B L) :
    Calls Tryz.prog 95 #[.slice a n c] w fun e w' => e = .returned (.map (some w.heap.size)) ∧ Disk w' w.heap.size L ∧ Below w.heap.size w w' := by
  obtain ⟨hL, hc⟩ := hs
  have HC := hide hc
  have HL := hide hL
  have hmm := @run_makeMap Tryz.prog
  clear hc hL
  go_enter Tryz.func95, Tryz.ntmps95
  go_wp2_with fail
  go_loopw [9] (fun a9 wr => ∃ j : Nat, a9 = .int .i64 j ∧ j ≤ n ∧ Disk wr w.heap.size (L.take j) ∧ wr.heap.size = w.heap.size + 1 + j ∧ Below w.heap.size w wr) (fun a9 _ => n - (intOf a9).toNat)
  case atStart =>
    refine ⟨0, rfl, Nat.zero_le _, ⟨?_, fun i hi => by simp at hi⟩, by simp, (Below.refl _ _).alloc (Nat.le_refl _) _⟩
    have h := PtrMap.made w
    rw [← secs_zero w.heap.size] at h
    exact h
  case round =>
    obtain ⟨j, rfl, hj, hd, hz, hb⟩ := hrel
    by_cases hlt : j < n
    · have hjL : j < L.length := by have := unhide HL; omega
      obtain ⟨b, off, rfl, hbB, hcell⟩ := unhide HC j hjL
      rw [← hb.cell (p := ⟨b, off + j, none⟩) (by simp; omega)] at hcell
      have hx0 : (0 : Int) ≤ (j : Int) := by omega
      have hx1 : (j : Int) < (n : Int) := by omega
      have hlt2 : (L.take j).length = j := by simp; omega
      have HT := hide (List.take_succ_eq_append_getElem hjL)
      have hp := hd.1
      rw [hlt2] at hp
      have hp1 := hp.below (below_new wr (Obj.cells #[.string L[j]] 198))
      obtain ⟨w1, hrun, hp2, hk2, hsz⟩ := hp1.store Tryz.underlying139 (by unfold maxLen; omega) (j : Int) (wf_small j (by omega)) wr.heap.size (secs_none _ _)
      have HG := hide (fun (h : PtrMap w1 w.heap.size ((L.take j).length + 1) (upd (secs w.heap.size (L.take j).length) ((L.take j).length : Int) (some wr.heap.size)) ((L.take j).length + 1)) => hd.grow (by rw [hlt2]; omega) hk2 h)
      rw [hlt2] at HG
      have hdd := unhide HG hp2
      rw [← unhide HT] at hdd
      have HD := hide hdd
      have hsz : w1.heap.size = wr.heap.size + 1 := by rw [hsz]; simp
      have hbb : Below w.heap.size w w1 := (hb.alloc hb.size _).trans (hk2.below (by simp; omega) (fun g hg => by omega))
      have HZ := hide hz
      have HSZ := hide hsz
      generalize L[j] = s at hcell hrun
      clear hdd HG hp hp1 hp2 hk2 hd hz hsz
      go_wp2
      go_roundw
      case rel => exact ⟨j + 1, by go_num, by omega, unhide HD, by have := unhide HZ; have := unhide HSZ; omega, hbb⟩
      case measure => simp [intOf]; omega
    · obtain rfl : j = n := by omega
      have HD := hide hd
      clear hd
      go_wp2
      go_ret
      refine ⟨rfl, ?_, hb⟩
      have h := unhide HD
      rw [List.take_of_length_le (by have := unhide HL; omega)] at h
      exact h

set_option maxRecDepth 100000 in
set_option maxHeartbeats 1000000 in
theorem put_any (m k : Nat) (L : List ByteArray) (s : ByteArray) (hk : k < L.length) (hl : L.length ≤ 1048576) (w : World) (hd : Disk w m L) :
    Calls Tryz.prog 96 #[.map (some m), .agg #[.int .i64 (k : Int), .string s]] w fun e w' => e = .returned (.tuple #[]) ∧ Disk w' m (L.set k s) ∧ Kept (fun g => g = m + 1 + k) w w' := by
  have hd1 := hd.below (below_new w (Obj.cells #[.int .i64 (k : Int), .string s] 134))
  have hlk := hd1.look k hk hl
  obtain ⟨hc, hf⟩ := cells_of_one (hd1.2 k hk)
  have hsz := hd.size
  have hne : m + 1 + k ≠ w.heap.size := by omega
  have hne2 : w.heap.size ≠ m + 1 + k := by omega
  have HD := hide (hd1.set k hk s)
  generalize L[k] = z at hc
  have HK : Hid (Kept (fun g => g = m + 1 + k) w ((w.alloc (Obj.cells #[.int .i64 (k : Int), .string s] 134)).setCell ⟨m + 1 + k, 0, none⟩ (.string s))) := (Kept.of_below (below_new w _)).trans (Kept.set _ (m + 1 + k) 0 _ rfl)
  clear hd hd1 hsz
  go_enter Tryz.func96, Tryz.ntmps96
  go_wp2
  go_returns
  exact ⟨rfl, unhide HD, unhide HK⟩

set_option maxRecDepth 100000 in
set_option maxHeartbeats 2000000 in
theorem device_any (m : Nat) (L : List ByteArray) (hl : L.length ≤ 1048576) (hm : ∀ s ∈ L, s.size ≤ 1048576) (w : World) (hd : Disk w m L) :
    Calls Tryz.prog 97 #[.map (some m)] w fun e w' => (∃ d, e = .returned d ∧ DevOwn w' w.heap.size d L []) ∧ Below w.heap.size w w' := by
  obtain ⟨i0, hi, hz0, hz1, hz2⟩ := info_parts info9
  obtain ⟨n, hn⟩ : ∃ n, n = L.length := ⟨_, rfl⟩
  obtain ⟨M, hM⟩ : ∃ M, M = madeCells (Value.string ⟨#[]⟩).cells (n * i0.size) := ⟨_, rfl⟩
  have hMM := made_strs n M (by rw [hM, hz1])
  have hmk : ∀ W : World, (Instr.makeSlice 22 (.int .i64 (n : Int)) (.int .i64 (n : Int))).run Tryz.prog W = .ok (.slice (some ⟨W.heap.size, 0, none⟩) n n) (W.alloc (.cells M 9)) := fun W => by
    have h := run_make (P := Tryz.prog) W 22 9 i0 (.string ⟨#[]⟩) Tryz.underlying22 hi hz0 .i64 .i64 (n : Int) (n : Int) (by omega) (by omega) (by rw [hz2]; omega) (by omega)
    rw [Int.toNat_natCast, ← hM] at h
    simpa using h
  have hown : ∀ W : World, (W.alloc (.cells M 9)).ownsRow W.heap.size 9 1 (.slice (some ⟨W.heap.size, 0, none⟩) n n) n (strsV (part L ⟨#[]⟩ 0)) := fun W =>
    ⟨by simp [strsV, part_zero, hn], .inr ⟨W.heap.size, n, M, rfl, Nat.le_refl _, heap_alloc_new W _, Nat.le_refl _, by unfold maxLen; omega, hMM.2, by rw [hMM.1, part_zero, ← hn, Nat.mul_one, List.take_of_length_le (by simp [strsV])]⟩⟩
  have HO := hide hown
  have hd1 := hd.below (below_new w (Obj.cells #[Value.slice none 0 0, Value.slice none 0 0] 25))
  have hlen : ∀ ty, (Builtin.len_ #[139] ty #[.map (some m)]).run Tryz.prog (w.alloc (Obj.cells #[Value.slice none 0 0, Value.slice none 0 0] 25)) = .ok (.int .i64 (n : Int)) (w.alloc (Obj.cells #[Value.slice none 0 0, Value.slice none 0 0] 25)) := fun ty => by
    rw [hn]; exact hd1.1.len Tryz.underlying139
  have HD := hide hd
  have HN := hide hn
  have HM := hide hm
  have hl2 : n ≤ 1048576 := by omega
  clear hM hMM hown hd1 hd hm hn
  go_enter Tryz.func97, Tryz.ntmps97
  go_wp2_with fail
  obtain ⟨W2, hW2⟩ : ∃ W, W = (w.alloc (Obj.cells #[Value.slice none 0 0, Value.slice none 0 0] 25)).alloc (Obj.cells M 9) := ⟨_, rfl⟩
  rw [← hW2]
  have hb2 : Below w.heap.size w W2 := by rw [hW2]; exact ((Below.refl _ _).alloc (Nat.le_refl _) _).alloc (by simp) _
  have hs2 : W2.heap.size = w.heap.size + 2 := by rw [hW2]; simp
  have HR2 : Hid (Box W2 w.heap.size (Value.slice none 0 0) (Value.slice none 0 0)) := by show Box _ _ _ _; rw [hW2]; exact (Box.new _ _ _).below (below_new _ _)
  have HO2 : Hid (W2.ownsRow w.heap.size 9 1 (.slice (some ⟨w.heap.size + 1, 0, none⟩) n n) n (strsV (part L ⟨#[]⟩ 0))) := by
    show World.ownsRow _ _ _ _ _ _ _
    have h := unhide HO (w.alloc (Obj.cells #[Value.slice none 0 0, Value.slice none 0 0] 25))
    simp only [World.size_alloc] at h
    rw [hW2]
    exact own_lower (by omega) h
  have HD2 := hide ((unhide HD).below hb2)
  have hdz := (unhide HD).size
  clear hW2 hlen HO hmk HD
  go_loopw [10] (fun a10 wr => ∃ j : Nat, a10 = .int .i64 j ∧ j ≤ n ∧ wr.ownsRow w.heap.size 9 1 (.slice (some ⟨w.heap.size + 1, 0, none⟩) n n) n (strsV (part L ⟨#[]⟩ j)) ∧ Kept (fun g => g = w.heap.size + 1) W2 wr) (fun a10 _ => n - (intOf a10).toNat)
  case atStart => exact ⟨0, rfl, Nat.zero_le _, unhide HO2, Kept.refl _ _⟩
  case round =>
    obtain ⟨j, rfl, hj, hown, hkp⟩ := hrel
    have hnL := unhide HN
    by_cases hlt : j < n
    · have hjL : j < L.length := by omega
      have hd := (unhide HD2).kept hkp (fun g h1 h2 => by omega)
      have hlk := hd.look j hjL hl
      obtain ⟨hc, _⟩ := cells_of_one (hd.2 j hjL)
      have HP := hide (part_set L ⟨#[]⟩ j hjL)
      have HCL := hide (fun w => clone_txt L[j] (by have := unhide HM _ (List.getElem_mem hjL); omega) w)
      generalize L[j] = s at hc HP HCL
      have HOW := hide hown
      have HKP := hide hkp
      have hx0 : (0 : Int) ≤ (j : Int) := by omega
      have hx1 : (j : Int) < (n : Int) := by omega
      clear hown hd hkp hnL
      go_wp2_with fail
      refine (unhide HCL _).mono ?_
      rintro e w1 ⟨rfl, hb1⟩
      have hown := own_below (unhide HOW) hb1
      have hpl : j < (part L ⟨#[]⟩ j).length := by rw [part_length _ _ _ (by omega)]; omega
      have hce := hown.cellAt j (by omega)
      have hce2 : (strsV (part L ⟨#[]⟩ j))[j]? = some (.string (part L ⟨#[]⟩ j)[j]) := by simp [strsV, hpl]
      rw [hce2] at hce
      have hfz := hown.frozenAt j
      have hst := (hown.stored j (.string s)).1
      rw [strsV_set, unhide HP] at hst
      have HST := hide hst
      have HK1 := hide (((unhide HKP).trans (Kept.of_below hb1)).trans (Kept.set w1 (w.heap.size + 1) j (.string s) rfl))
      generalize (part L ⟨#[]⟩ j)[j] = z at hce
      clear hst hown hce2 hb1 hlk hc
      go_wp2
      go_roundw
      case rel => exact ⟨j + 1, by go_num, by omega, unhide HST, unhide HK1⟩
      case measure => simp [intOf]; omega
    · obtain rfl : j = n := by omega
      have hr := (unhide HR2).kept hkp (by omega)
      have HO := hide hown
      have HR := hide hr
      obtain ⟨q0, q1⟩ := hr.cells
      have f0 := hr.froz 0
      have f1 := hr.froz 1
      have hcw : Below w.heap.size w wr := hb2.trans (hkp.below hb2.size (fun g hg => by omega))
      clear hown hr hkp hnL
      go_wp2
      (try simp only [Exit.inBlock, Exit.then])
      refine bodyPost_ret (results_cell_row Tryz.results97 _ _ w.heap.size _ _ _ _ rfl ((unhide HR).two _ _) Tryz.underlying25 rfl (by kernel_rfl)) rfl ?_
      have hown := unhide HO
      have hnL := unhide HN
      rw [hnL, part_all] at hown
      have hne : (Value.slice (some ⟨w.heap.size + 1, 0, none⟩) j j).ownBlock ≠ some w.heap.size := by simp [Value.ownBlock]
      refine ⟨⟨_, rfl, _, _, rfl, ?_, ⟨rfl, .inl ⟨rfl, rfl⟩⟩, .inl (by simp [Value.ownBlock])⟩, (hcw.setCell (p := ⟨w.heap.size, 0, none⟩) (by simp) _).setCell (p := ⟨w.heap.size, 1, none⟩) (by simp) _⟩
      rw [← hnL] at hown ⊢
      exact ownsRow_setCell_other (ownsRow_setCell_other hown hne _) hne _
end Go.Proofs.YtobdmjoonjblpaaGreatDoor
