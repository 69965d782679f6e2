/-
  Texts of this claim, one behind the other: Disk, DevFlushImpl.
-/
import Derived.Test.YtjhnippfepbjmaaGreatDoorJ21
import Derived.Test.YtjhnippfepbjmaaGreatDoorJ20

/-
  The contracts of impl.diskOf, (impl.disk).put and (impl.disk).device: sectors behind pointers in a map.
-/
namespace Go.Proofs.YtjhnippfepbjmaaGreatDoor
open Go.RowKit Go.Maps

theorem DevOwn.set_far {w : World} {B g : Nat} {v : Value} {L : List ByteArray} {Q : List (Int × ByteArray)} (h : DevOwn w B v L Q) (hg : g < B) (j : Nat) (u : Value) : DevOwn (w.setCell ⟨g, j, none⟩ u) B v L Q :=
  h.kept (S := fun k => k = g) (Kept.set w g j u rfl) (fun k hk e => by have := h.blk k hk; omega)

theorem DevOwn.lower {w : World} {B C : Nat} {v : Value} {L : List ByteArray} {Q : List (Int × ByteArray)} (h : DevOwn w B v L Q) (hC : C ≤ B) : DevOwn w C v L Q := by
  obtain ⟨v0, v1, rfl, h0, h1, h2⟩ := h
  exact ⟨v0, v1, rfl, own_lower hC h0, own_lower hC h1, h2⟩

/-- What the map of a disk of n sectors holds: the sector at i lies in block m + 1 + i. -/
def secs (m n : Nat) : Int → Option Nat := fun x => if 0 ≤ x ∧ x < (n : Int) then some (m + 1 + x.toNat) else none

theorem secs_at (m n i : Nat) (h : i < n) : secs m n (i : Int) = some (m + 1 + i) := by
  unfold secs
  rw [if_pos (by omega)]
  simp

theorem secs_succ (m n : Nat) : upd (secs m n) (n : Int) (some (m + 1 + n)) = secs m (n + 1) := by
  funext x
  unfold upd secs
  by_cases h : x = (n : Int)
  · subst h
    rw [if_pos rfl, if_pos (by omega)]
    simp
  · rw [if_neg h]
    by_cases h2 : 0 ≤ x ∧ x < (n : Int)
    · rw [if_pos h2, if_pos (by omega)]
    · rw [if_neg h2, if_neg (by omega)]

/-- Sectors behind pointers, in the map in block m. -/
def Disk (w : World) (m : Nat) (L : List ByteArray) : Prop :=
  PtrMap w m L.length (secs m L.length) L.length ∧ ∀ i (h : i < L.length), w.heap[m + 1 + i]? = some (.cells #[.string L[i]] 153 (0, 0))

theorem Disk.size {w : World} {m : Nat} {L : List ByteArray} (h : Disk w m L) : m + L.length < w.heap.size := by
  obtain ⟨hp, hs⟩ := h
  rcases Nat.eq_zero_or_pos L.length with h0 | h0
  · have := hp.lt; omega
  · have h1 := hs (L.length - 1) (by omega)
    rcases Nat.lt_or_ge (m + 1 + (L.length - 1)) w.heap.size with h2 | h2
    · omega
    · rw [Array.getElem?_eq_none h2] at h1; cases h1

theorem Disk.kept {S : Nat → Prop} {w w' : World} {m : Nat} {L : List ByteArray} (h : Disk w m L) (hk : Kept S w w') (hS : ∀ g, m ≤ g → g ≤ m + L.length → ¬ S g) : Disk w' m L := by
  have hsz := h.size
  obtain ⟨hp, hs⟩ := h
  refine ⟨hp.kept hk (hS m (Nat.le_refl _) (by omega)), fun i hi => ?_⟩
  rw [hk.2.2.2.2 (m + 1 + i) (by omega) (hS _ (by omega) (by omega))]
  exact hs i hi

theorem Disk.below {w w' : World} {m : Nat} {L : List ByteArray} (h : Disk w m L) (hb : Below w.heap.size w w') : Disk w' m L :=
  h.kept (S := fun _ => False) (Kept.of_below hb) (by simp)

theorem zeroSec (w : World) : (zeroValue 151).run Tryz.prog w = .ok (.pointer none) w := by kernel_rfl

theorem wf_small (k : Nat) (h : k ≤ 1048576) : (Lit.int .i64 (k : Int)).wf = true := WalkArith.wf_i64 (by omega)

theorem Disk.look {w : World} {m : Nat} {L : List ByteArray} (h : Disk w m L) (i : Nat) (hi : i < L.length) (hl : L.length ≤ 1048576) :
    (Instr.lookup 127 (.map (some m)) (.int .i64 (i : Int)) false).run Tryz.prog w = .ok (.pointer (some ⟨m + 1 + i, 0, none⟩)) w := by
  obtain ⟨hp, hs⟩ := h
  have h := hp.look Tryz.underlying127 (zeroSec w) (i : Int) (wf_small i (by omega))
  rw [secs_at m _ i hi] at h
  exact h

theorem cells_of_one {w : World} {g : Nat} {x : Value} {t : TypeId} (h : w.heap[g]? = some (.cells #[x] t (0, 0))) :
    w.cell? ⟨g, 0, none⟩ = some x ∧ w.frozen? ⟨g, 0, none⟩ = false := by
  refine ⟨?_, ?_⟩
  · rw [cell_of_row w g 0 _ t (0, 0) h]; rfl
  · exact frozen_of_row w g 0 _ t h

theorem Disk.set {w : World} {m : Nat} {L : List ByteArray} (h : Disk w m L) (k : Nat) (hk : k < L.length) (s : ByteArray) : Disk (w.setCell ⟨m + 1 + k, 0, none⟩ (.string s)) m (L.set k s) := by
  obtain ⟨hp, hs⟩ := h
  have hkp : Kept (fun g => g = m + 1 + k) w (w.setCell ⟨m + 1 + k, 0, none⟩ (.string s)) := Kept.set w (m + 1 + k) 0 _ rfl
  refine ⟨?_, fun i hi => ?_⟩
  · rw [List.length_set]
    exact hp.kept hkp (by omega)
  · rw [List.length_set] at hi
    by_cases he : i = k
    · subst he
      have h1 := heap_setCell_same w (m + 1 + i) 0 _ 153 (.string s) (hs i hk)
      rw [h1]
      simp
    · rw [heap_setCell_other _ _ _ _ (by simp; omega), hs i hi]
      simp [Ne.symm he]

theorem secs_zero (m : Nat) : secs m 0 = fun _ => none := by
  funext x
  unfold secs
  rw [if_neg (by omega)]

theorem secs_none (m n : Nat) : secs m n (n : Int) = none := by
  unfold secs
  rw [if_neg (by omega)]

theorem Disk.grow {w w' : World} {m : Nat} {L : List ByteArray} {s : ByteArray} (h : Disk w m L) (hm : w.heap.size = m + 1 + L.length) (hk : Kept (fun g => g = m) (w.alloc (Obj.cells #[.string s] 153)) w')
    (hp : PtrMap w' m (L.length + 1) (upd (secs m L.length) (L.length : Int) (some w.heap.size)) (L.length + 1)) : Disk w' m (L ++ [s]) := by
  have e : (L ++ [s]).length = L.length + 1 := by simp
  rw [hm, secs_succ] at hp
  refine ⟨by rw [e]; exact hp, fun i hi => ?_⟩
  rw [e] at hi
  rw [hk.2.2.2.2 (m + 1 + i) (by simp; omega) (by omega)]
  by_cases he : i = L.length
  · subst he
    have h1 := heap_alloc_new w (Obj.cells #[.string s] 153)
    rw [hm] at h1
    rw [h1]
    simp
  · rw [(below_new w (Obj.cells #[.string s] 153)).block (m + 1 + i) (by omega), h.2 i (by omega)]
    simp [List.getElem_append_left (show i < L.length by omega)]

set_option maxRecDepth 100000 in
set_option maxHeartbeats 1000000 in
theorem diskOf_any (a : Option Addr) (n c B : Nat) (L : List ByteArray) (hn : n ≤ 1048576) (w : World) (hB : B ≤ w.heap.size) (hs : StrsAt w a n B L) :
    Calls Tryz.prog 80 #[.slice a n c] w fun e w' => e = .returned (.map (some w.heap.size)) ∧ Disk w' w.heap.size L ∧ Below w.heap.size w w' := by
  obtain ⟨hL, hc⟩ := hs
  have HC := hide hc
  have HL := hide hL
  have hmm := @run_makeMap Tryz.prog
  clear hc hL
  go_enter Tryz.func80, Tryz.ntmps80
  go_wp2_with fail
  go_loopw [9] (fun a9 wr => ∃ j : Nat, a9 = .int .i64 j ∧ j ≤ n ∧ Disk wr w.heap.size (L.take j) ∧ wr.heap.size = w.heap.size + 1 + j ∧ Below w.heap.size w wr) (fun a9 _ => n - (intOf a9).toNat)
  case atStart =>
    refine ⟨0, rfl, Nat.zero_le _, ⟨?_, fun i hi => by simp at hi⟩, by simp, (Below.refl _ _).alloc (Nat.le_refl _) _⟩
    have h := PtrMap.made w
    rw [← secs_zero w.heap.size] at h
    exact h
  case round =>
    obtain ⟨j, rfl, hj, hd, hz, hb⟩ := hrel
    by_cases hlt : j < n
    · have hjL : j < L.length := by have := unhide HL; omega
      obtain ⟨b, off, rfl, hbB, hcell⟩ := unhide HC j hjL
      rw [← hb.cell (p := ⟨b, off + j, none⟩) (by simp; omega)] at hcell
      have hx0 : (0 : Int) ≤ (j : Int) := by omega
      have hx1 : (j : Int) < (n : Int) := by omega
      have hlt2 : (L.take j).length = j := by simp; omega
      have HT := hide (List.take_succ_eq_append_getElem hjL)
      have hp := hd.1
      rw [hlt2] at hp
      have hp1 := hp.below (below_new wr (Obj.cells #[.string L[j]] 153))
      obtain ⟨w1, hrun, hp2, hk2, hsz⟩ := hp1.store Tryz.underlying127 (by unfold maxLen; omega) (j : Int) (wf_small j (by omega)) wr.heap.size (secs_none _ _)
      have HG := hide (fun (h : PtrMap w1 w.heap.size ((L.take j).length + 1) (upd (secs w.heap.size (L.take j).length) ((L.take j).length : Int) (some wr.heap.size)) ((L.take j).length + 1)) => hd.grow (by rw [hlt2]; omega) hk2 h)
      rw [hlt2] at HG
      have hdd := unhide HG hp2
      rw [← unhide HT] at hdd
      have HD := hide hdd
      have hsz : w1.heap.size = wr.heap.size + 1 := by rw [hsz]; simp
      have hbb : Below w.heap.size w w1 := (hb.alloc hb.size _).trans (hk2.below (by simp; omega) (fun g hg => by omega))
      have HZ := hide hz
      have HSZ := hide hsz
      generalize L[j] = s at hcell hrun
      clear hdd HG hp hp1 hp2 hk2 hd hz hsz
      go_wp2
      go_roundw
      case rel => exact ⟨j + 1, by go_num, by omega, unhide HD, by have := unhide HZ; have := unhide HSZ; omega, hbb⟩
      case measure => simp [intOf]; omega
    · obtain rfl : j = n := by omega
      have HD := hide hd
      clear hd
      go_wp2
      go_ret
      refine ⟨rfl, ?_, hb⟩
      have h := unhide HD
      rw [List.take_of_length_le (by have := unhide HL; omega)] at h
      exact h

set_option maxRecDepth 100000 in
set_option maxHeartbeats 1000000 in
theorem put_any (m k : Nat) (L : List ByteArray) (s : ByteArray) (hk : k < L.length) (hl : L.length ≤ 1048576) (w : World) (hd : Disk w m L) :
    Calls Tryz.prog 81 #[.map (some m), .agg #[.int .i64 (k : Int), .string s]] w fun e w' => e = .returned (.tuple #[]) ∧ Disk w' m (L.set k s) ∧ Kept (fun g => g = m + 1 + k) w w' := by
  have hd1 := hd.below (below_new w (Obj.cells #[.int .i64 (k : Int), .string s] 121))
  have hlk := hd1.look k hk hl
  obtain ⟨hc, hf⟩ := cells_of_one (hd1.2 k hk)
  have hsz := hd.size
  have hne : m + 1 + k ≠ w.heap.size := by omega
  have hne2 : w.heap.size ≠ m + 1 + k := by omega
  have HD := hide (hd1.set k hk s)
  generalize L[k] = z at hc
  have HK : Hid (Kept (fun g => g = m + 1 + k) w ((w.alloc (Obj.cells #[.int .i64 (k : Int), .string s] 121)).setCell ⟨m + 1 + k, 0, none⟩ (.string s))) := (Kept.of_below (below_new w _)).trans (Kept.set _ (m + 1 + k) 0 _ rfl)
  clear hd hd1 hsz
  go_enter Tryz.func81, Tryz.ntmps81
  go_wp2
  go_returns
  exact ⟨rfl, unhide HD, unhide HK⟩

set_option maxRecDepth 100000 in
set_option maxHeartbeats 2000000 in
theorem device_any (m : Nat) (L : List ByteArray) (hl : L.length ≤ 1048576) (hm : ∀ s ∈ L, s.size ≤ 1048576) (w : World) (hd : Disk w m L) :
    Calls Tryz.prog 82 #[.map (some m)] w fun e w' => (∃ d, e = .returned d ∧ DevOwn w' w.heap.size d L []) ∧ Below w.heap.size w w' := by
  obtain ⟨i0, hi, hz0, hz1, hz2⟩ := info_parts info9
  obtain ⟨n, hn⟩ : ∃ n, n = L.length := ⟨_, rfl⟩
  obtain ⟨M, hM⟩ : ∃ M, M = madeCells (Value.string ⟨#[]⟩).cells (n * i0.size) := ⟨_, rfl⟩
  have hMM := made_strs n M (by rw [hM, hz1])
  have hmk : ∀ W : World, (Instr.makeSlice 28 (.int .i64 (n : Int)) (.int .i64 (n : Int))).run Tryz.prog W = .ok (.slice (some ⟨W.heap.size, 0, none⟩) n n) (W.alloc (.cells M 9)) := fun W => by
    have h := run_make (P := Tryz.prog) W 28 9 i0 (.string ⟨#[]⟩) Tryz.underlying28 hi hz0 .i64 .i64 (n : Int) (n : Int) (by omega) (by omega) (by rw [hz2]; omega) (by omega)
    rw [Int.toNat_natCast, ← hM] at h
    simpa using h
  have hown : ∀ W : World, (W.alloc (.cells M 9)).ownsRow W.heap.size 9 1 (.slice (some ⟨W.heap.size, 0, none⟩) n n) n (strsV (part L ⟨#[]⟩ 0)) := fun W =>
    ⟨by simp [strsV, part_zero, hn], .inr ⟨W.heap.size, n, M, rfl, Nat.le_refl _, heap_alloc_new W _, Nat.le_refl _, by unfold maxLen; omega, hMM.2, by rw [hMM.1, part_zero, ← hn, Nat.mul_one, List.take_of_length_le (by simp [strsV])]⟩⟩
  have HO := hide hown
  have hd1 := hd.below (below_new w (Obj.cells #[Value.slice none 0 0, Value.slice none 0 0] 36))
  have hlen : ∀ ty, (Builtin.len_ #[127] ty #[.map (some m)]).run Tryz.prog (w.alloc (Obj.cells #[Value.slice none 0 0, Value.slice none 0 0] 36)) = .ok (.int .i64 (n : Int)) (w.alloc (Obj.cells #[Value.slice none 0 0, Value.slice none 0 0] 36)) := fun ty => by
    rw [hn]; exact hd1.1.len Tryz.underlying127
  have HD := hide hd
  have HN := hide hn
  have HM := hide hm
  have hl2 : n ≤ 1048576 := by omega
  clear hM hMM hown hd1 hd hm hn
  go_enter Tryz.func82, Tryz.ntmps82
  go_wp2_with fail
  obtain ⟨W2, hW2⟩ : ∃ W, W = (w.alloc (Obj.cells #[Value.slice none 0 0, Value.slice none 0 0] 36)).alloc (Obj.cells M 9) := ⟨_, rfl⟩
  rw [← hW2]
  have hb2 : Below w.heap.size w W2 := by rw [hW2]; exact ((Below.refl _ _).alloc (Nat.le_refl _) _).alloc (by simp) _
  have hs2 : W2.heap.size = w.heap.size + 2 := by rw [hW2]; simp
  have HR2 : Hid (Box W2 w.heap.size (Value.slice none 0 0) (Value.slice none 0 0)) := by show Box _ _ _ _; rw [hW2]; exact (Box.new _ _ _).below (below_new _ _)
  have HO2 : Hid (W2.ownsRow w.heap.size 9 1 (.slice (some ⟨w.heap.size + 1, 0, none⟩) n n) n (strsV (part L ⟨#[]⟩ 0))) := by
    show World.ownsRow _ _ _ _ _ _ _
    have h := unhide HO (w.alloc (Obj.cells #[Value.slice none 0 0, Value.slice none 0 0] 36))
    simp only [World.size_alloc] at h
    rw [hW2]
    exact own_lower (by omega) h
  have HD2 := hide ((unhide HD).below hb2)
  have hdz := (unhide HD).size
  clear hW2 hlen HO hmk HD
  go_loopw [10] (fun a10 wr => ∃ j : Nat, a10 = .int .i64 j ∧ j ≤ n ∧ wr.ownsRow w.heap.size 9 1 (.slice (some ⟨w.heap.size + 1, 0, none⟩) n n) n (strsV (part L ⟨#[]⟩ j)) ∧ Kept (fun g => g = w.heap.size + 1) W2 wr) (fun a10 _ => n - (intOf a10).toNat)
  case atStart => exact ⟨0, rfl, Nat.zero_le _, unhide HO2, Kept.refl _ _⟩
  case round =>
    obtain ⟨j, rfl, hj, hown, hkp⟩ := hrel
    have hnL := unhide HN
    by_cases hlt : j < n
    · have hjL : j < L.length := by omega
      have hd := (unhide HD2).kept hkp (fun g h1 h2 => by omega)
      have hlk := hd.look j hjL hl
      obtain ⟨hc, _⟩ := cells_of_one (hd.2 j hjL)
      have HP := hide (part_set L ⟨#[]⟩ j hjL)
      have HCL := hide (fun w => clone_txt L[j] (by have := unhide HM _ (List.getElem_mem hjL); omega) w)
      generalize L[j] = s at hc HP HCL
      have HOW := hide hown
      have HKP := hide hkp
      have hx0 : (0 : Int) ≤ (j : Int) := by omega
      have hx1 : (j : Int) < (n : Int) := by omega
      clear hown hd hkp hnL
      go_wp2_with fail
      refine (unhide HCL _).mono ?_
      rintro e w1 ⟨rfl, hb1⟩
      have hown := own_below (unhide HOW) hb1
      have hpl : j < (part L ⟨#[]⟩ j).length := by rw [part_length _ _ _ (by omega)]; omega
      have hce := hown.cellAt j (by omega)
      have hce2 : (strsV (part L ⟨#[]⟩ j))[j]? = some (.string (part L ⟨#[]⟩ j)[j]) := by simp [strsV, hpl]
      rw [hce2] at hce
      have hfz := hown.frozenAt j
      have hst := (hown.stored j (.string s)).1
      rw [strsV_set, unhide HP] at hst
      have HST := hide hst
      have HK1 := hide (((unhide HKP).trans (Kept.of_below hb1)).trans (Kept.set w1 (w.heap.size + 1) j (.string s) rfl))
      generalize (part L ⟨#[]⟩ j)[j] = z at hce
      clear hst hown hce2 hb1 hlk hc
      go_wp2
      go_roundw
      case rel => exact ⟨j + 1, by go_num, by omega, unhide HST, unhide HK1⟩
      case measure => simp [intOf]; omega
    · obtain rfl : j = n := by omega
      have hr := (unhide HR2).kept hkp (by omega)
      have HO := hide hown
      have HR := hide hr
      obtain ⟨q0, q1⟩ := hr.cells
      have f0 := hr.froz 0
      have f1 := hr.froz 1
      have hcw : Below w.heap.size w wr := hb2.trans (hkp.below hb2.size (fun g hg => by omega))
      clear hown hr hkp hnL
      go_wp2
      (try simp only [Exit.inBlock, Exit.then])
      refine bodyPost_ret (results_cell_row Tryz.results82 _ _ w.heap.size _ _ _ _ rfl ((unhide HR).two _ _) Tryz.underlying36 rfl (by kernel_rfl)) rfl ?_
      have hown := unhide HO
      have hnL := unhide HN
      rw [hnL, part_all] at hown
      have hne : (Value.slice (some ⟨w.heap.size + 1, 0, none⟩) j j).ownBlock ≠ some w.heap.size := by simp [Value.ownBlock]
      refine ⟨⟨_, rfl, _, _, rfl, ?_, ⟨rfl, .inl ⟨rfl, rfl⟩⟩, .inl (by simp [Value.ownBlock])⟩, (hcw.setCell (p := ⟨w.heap.size, 0, none⟩) (by simp) _).setCell (p := ⟨w.heap.size, 1, none⟩) (by simp) _⟩
      rw [← hnL] at hown ⊢
      exact ownsRow_setCell_other (ownsRow_setCell_other hown hne _) hne _
end Go.Proofs.YtjhnippfepbjmaaGreatDoor

/-
  The contract of impl.FlushDevice.
-/
namespace Go.Proofs.YtjhnippfepbjmaaGreatDoor
open Go.RowKit

set_option maxRecDepth 100000 in
theorem implFlush_no (v : Value) (B : Nat) (L : List ByteArray) (Q : List (Int × ByteArray)) (hok : devOk L Q = false) (h1 : L.length ≤ 1048576) (h2 : Q.length ≤ 1048576) (hm : ∀ s ∈ L, s.size ≤ 9223372036854775807) (w : World) (hB : B ≤ w.heap.size) (hv : DevAt w v B L Q) :
    Calls Tryz.prog 63 #[v] w fun e w' => DevPost w [] [] false e w' := by
  have OK := hide (fun w1 (hb : Below w.heap.size w w1) => implDev_any v B L Q h1 h2 hm w1 (by have := hb.size; omega) (hv.below hb hB))
  rw [hok] at OK
  obtain ⟨a, n, c, a', n', c', rfl, hL, hQ⟩ := hv
  clear hL hQ hm h1 h2
  go_enter Tryz.func63, Tryz.ntmps63
  go_wp2_with fail
  obtain ⟨W2, hW2⟩ : ∃ W, W = (w.alloc (Obj.cells #[Value.slice a n c, Value.slice a' n' c'] 36)).alloc (Obj.cells #[Value.slice none 0 0, Value.slice none 0 0] 36) := ⟨_, rfl⟩
  rw [← hW2]
  have hb2 : Below w.heap.size w W2 := by rw [hW2]; exact ((Below.refl _ _).alloc (Nat.le_refl _) _).alloc (by simp) _
  have hr2 : Box W2 (w.heap.size + 1) (Value.slice none 0 0) (Value.slice none 0 0) := by
    have h := Box.new (w.alloc (Obj.cells #[Value.slice a n c, Value.slice a' n' c'] 36)) (Value.slice none 0 0) (Value.slice none 0 0)
    rw [hW2]
    simpa using h
  clear hW2
  refine (unhide OK W2 hb2).mono ?_
  rintro e w3 ⟨rfl, hb3⟩
  have hr := hr2.below hb3
  have HR := hide hr
  have hcw : Below w.heap.size w w3 := hb2.trans (hb3.mono hb2.size)
  obtain ⟨q0, q1⟩ := hr.cells
  have f0 := hr.froz 0
  have f1 := hr.froz 1
  clear hr hb3 hr2 hb2
  go_wp2
  (try simp only [Exit.inBlock, Exit.then])
  refine bodyPost_ret (results_box Tryz.results63 _ _ (w.heap.size + 1) _ _ rfl ((unhide HR).two _ _)) rfl ?_
  exact ⟨⟨_, rfl, devNil _ _⟩, (hcw.setCell (p := ⟨w.heap.size + 1, 0, none⟩) (by simp) _).setCell (p := ⟨w.heap.size + 1, 1, none⟩) (by simp) _⟩

theorem flushL_size {L : List ByteArray} {Q : List (Int × ByteArray)} (hL : ∀ s ∈ L, s.size ≤ 64) (hQ : ∀ q ∈ Q, q.2.size ≤ 64) : ∀ s ∈ flushL L Q, s.size ≤ 64 := by
  unfold flushL
  induction Q generalizing L with
  | nil => exact hL
  | cons q Q ih =>
    simp only [List.foldl_cons]
    refine ih (fun s hs => ?_) (fun r hr => hQ r (List.mem_cons_of_mem _ hr))
    rcases List.mem_or_eq_of_mem_set hs with h | h
    · exact hL s h
    · rw [h]; exact hQ q List.mem_cons_self

set_option maxRecDepth 100000 in
set_option maxHeartbeats 1000000 in
theorem implFlush_yes (v : Value) (B : Nat) (L : List ByteArray) (Q : List (Int × ByteArray)) (hok : devOk L Q = true) (w : World) (hB : B ≤ w.heap.size) (hv : DevAt w v B L Q) :
    Calls Tryz.prog 63 #[v] w fun e w' => DevPost w (flushL L Q) [] true e w' := by
  have hds := devOk_sec hok
  have OK := hide (fun w1 (hb : Below w.heap.size w w1) => implDev_any v B L Q (by omega) (by omega) (fun s hs => by have := hds.2.2.2.1 s hs; omega) w1 (by have := hb.size; omega) (hv.below hb hB))
  rw [hok] at OK
  obtain ⟨a, n, c, a', n', c', rfl, hL, hQ⟩ := hv
  have e1 := hL.1
  have DO := hide (fun w1 (hb : Below w.heap.size w w1) => diskOf_any a n c B L (by omega) w1 (by have := hb.size; omega) (hL.below hb hB))
  obtain ⟨e2, hQc⟩ := hQ
  have hn4 : n ≤ 400 := by omega
  have hn4' : n' ≤ 400 := by omega
  have HFS := hide (flushL_size (Q := Q) hds.2.2.2.1 (fun q hq => (hds.2.2.2.2 q hq).2.2))
  have HQ0 := hide hds.2.2.2.2
  have HQC := hide hQc
  have HN := hide e1
  have HN' := hide e2
  clear hds hok hQc hL e1 e2
  go_enter Tryz.func63, Tryz.ntmps63
  go_wp2_with fail
  obtain ⟨W2, hW2⟩ : ∃ W, W = (w.alloc (Obj.cells #[Value.slice a n c, Value.slice a' n' c'] 36)).alloc (Obj.cells #[Value.slice none 0 0, Value.slice none 0 0] 36) := ⟨_, rfl⟩
  rw [← hW2]
  have hb2 : Below w.heap.size w W2 := by rw [hW2]; exact ((Below.refl _ _).alloc (Nat.le_refl _) _).alloc (by simp) _
  have hs2 : W2.heap.size = w.heap.size + 2 := by rw [hW2]; simp
  have hx2 : Box W2 w.heap.size (Value.slice a n c) (Value.slice a' n' c') := by rw [hW2]; exact (Box.new _ _ _).below (below_new _ _)
  have hr2 : Box W2 (w.heap.size + 1) (Value.slice none 0 0) (Value.slice none 0 0) := by
    have h := Box.new (w.alloc (Obj.cells #[Value.slice a n c, Value.slice a' n' c'] 36)) (Value.slice none 0 0) (Value.slice none 0 0)
    rw [hW2]
    simpa using h
  clear hW2
  refine (unhide OK W2 hb2).mono ?_
  rintro e w3 ⟨rfl, hb3⟩
  have hx3 := hx2.below hb3
  have hr3 := hr2.below hb3
  have hc3 : Below w.heap.size w w3 := hb2.trans (hb3.mono hb2.size)
  have hs3 := hb3.size
  obtain ⟨p0, p1⟩ := hx3.cells
  have HX3 := hide hx3
  have HR3 := hide hr3
  clear hb3 hx2 hr2 hb2 hx3 hr3
  go_wp2_with fail
  refine (unhide DO w3 hc3).mono ?_
  rintro e w4 ⟨rfl, hd4, hb4⟩
  have HX4 := hide ((unhide HX3).below hb4)
  have HR4 := hide ((unhide HR3).below hb4)
  have HD4 := hide hd4
  have hdz := hd4.size
  have hc4 : Below w.heap.size w w4 := hc3.trans (hb4.mono hc3.size)
  have hs4 := hb4.size
  obtain ⟨p0, p1⟩ := (unhide HX4).cells
  obtain ⟨m, hm⟩ : ∃ m, m = w3.heap.size := ⟨_, rfl⟩
  rw [← hm] at HD4 hdz hs3 ⊢
  clear hd4 hb4 HX3 HR3 hm
  go_wp2_with fail
  go_loopw [17] (fun a17 wr => ∃ j : Nat, a17 = .int .i64 j ∧ j ≤ n' ∧ Disk wr m (flushL L (Q.take j)) ∧ Kept (fun g => m ≤ g) w4 wr) (fun a17 _ => n' - (intOf a17).toNat)
  case atStart => exact ⟨0, rfl, Nat.zero_le _, unhide HD4, Kept.refl _ _⟩
  case round =>
    obtain ⟨j, rfl, hj, hd, hkp⟩ := hrel
    have hcw : Below w.heap.size w wr := hc4.trans (hkp.below hc4.size (fun k hk => by omega))
    by_cases hlt : j < n'
    · have hjQ : j < Q.length := by have := unhide HN'; omega
      obtain ⟨b', off', rfl, hbB', hq0, hq1⟩ := unhide HQC j hjQ
      rw [← hcw.cell (p := ⟨b', off' + j * 2, none⟩) (by simp; omega)] at hq0
      rw [← hcw.cell (p := ⟨b', off' + j * 2 + 1, none⟩) (by simp; omega)] at hq1
      have hqq := unhide HQ0 _ (List.getElem_mem hjQ)
      have HF := hide (flushL_snoc L Q j hjQ)
      have hi0 : (0 : Int) ≤ (j : Int) := by omega
      have hi1 : (j : Int) < (n' : Int) := by omega
      generalize Q[j] = q at hq0 hq1 hqq HF
      obtain ⟨x, s⟩ := q
      simp only at hq0 hq1 hqq HF
      obtain ⟨k, rfl⟩ := Int.eq_ofNat_of_zero_le hqq.1
      have hkL : k < (flushL L (Q.take j)).length := by rw [flushL_length]; omega
      have hd1 := hd.below (below_new wr (Obj.cells #[Value.int .i64 (k : Int), Value.string s] 121))
      have HPT := hide (put_any m k _ s hkL (by rw [flushL_length]; have := unhide HN; omega) _ hd1)
      have hF := unhide HF
      rw [Int.toNat_natCast] at hF
      rw [← hF] at HPT
      have HKP := hide (hkp.trans (Kept.of_below (below_new wr (Obj.cells #[Value.int .i64 (k : Int), Value.string s] 121))))
      clear hd hd1 HF hF hqq hkp hkL p0 p1
      go_wp2_with fail
      refine (unhide HPT).mono ?_
      rintro e w5 ⟨rfl, hd5, hk5⟩
      have HD5 := hide hd5
      have HK5 := hide ((unhide HKP).trans (hk5.weak (fun g hg => by omega)))
      clear hd5 hk5
      go_wp2
      go_roundw
      case rel => exact ⟨j + 1, by go_num, by omega, unhide HD5, unhide HK5⟩
      case measure => simp [intOf]; omega
    · obtain rfl : j = n' := by omega
      have hr := (unhide HR4).kept hkp (by omega)
      have HR := hide hr
      rw [List.take_of_length_le (by have := unhide HN'; omega)] at hd
      have HDV := hide (device_any m (flushL L Q) (by rw [flushL_length]; have := unhide HN; omega) (fun s hs => by have := unhide HFS s hs; omega) wr hd)
      clear hr hkp hd p0 p1
      go_wp2_with fail
      refine (unhide HDV).mono ?_
      rintro e w6 ⟨⟨d, rfl, ho6⟩, hb6⟩
      have HO6 := hide ho6
      obtain ⟨a6, n6, c6, a7, n7, c7, rfl, _, _⟩ := ho6.at
      have hr := (unhide HR).below hb6
      have HR6 := hide hr
      obtain ⟨q0, q1⟩ := hr.cells
      have f0 := hr.froz 0
      have f1 := hr.froz 1
      have hle := hcw.size
      have hrl := (unhide HR).lt
      have hc6 : Below w.heap.size w w6 := hcw.trans (hb6.mono hcw.size)
      clear hr hb6 ho6
      go_wp2
      (try simp only [Exit.inBlock, Exit.then])
      refine bodyPost_ret (results_box Tryz.results63 _ _ (w.heap.size + 1) _ _ rfl ((unhide HR6).two _ _)) rfl ?_
      refine ⟨⟨_, rfl, ?_⟩, (hc6.setCell (p := ⟨w.heap.size + 1, 0, none⟩) (by simp) _).setCell (p := ⟨w.heap.size + 1, 1, none⟩) (by simp) _⟩
      exact ((unhide HO6).set_far (by omega) 0 _).set_far (by omega) 1 _ |>.lower hle

theorem implFlush_any (v : Value) (B : Nat) (L : List ByteArray) (Q : List (Int × ByteArray)) (h1 : L.length ≤ 1048576) (h2 : Q.length ≤ 1048576) (hm : ∀ s ∈ L, s.size ≤ 9223372036854775807) (w : World) (hB : B ≤ w.heap.size) (hv : DevAt w v B L Q) :
    Calls Tryz.prog 63 #[v] w fun e w' => DevPost w (flushA L Q) [] (devOk L Q) e w' := by
  unfold flushA
  cases hok : devOk L Q
  · exact implFlush_no v B L Q hok h1 h2 hm w hB hv
  · exact implFlush_yes v B L Q hok w hB hv

theorem flushA_length (L : List ByteArray) (Q : List (Int × ByteArray)) : (flushA L Q).length ≤ L.length := by
  unfold flushA
  split
  · rw [flushL_length]; exact Nat.le_refl _
  · simp
end Go.Proofs.YtjhnippfepbjmaaGreatDoor
