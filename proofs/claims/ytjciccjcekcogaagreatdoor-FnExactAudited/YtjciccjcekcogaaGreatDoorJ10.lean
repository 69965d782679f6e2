/-
  Texts of this claim, one behind the other: IntsAt, GrInts, GrKInts.
-/
import Derived.Test.YtjciccjcekcogaaGreatDoorProg
import Derived.Test.YtjciccjcekcogaaGreatDoorJ1
import Derived.Handy
import Derived.Test.YtjciccjcekcogaaGreatDoorJ2
import Derived.Deep.RegionHeld3
import Derived.Lib.SmallJoins
import Derived.SliceStrings
import Derived.ShutString

/-
  Rows of numbers in memory; the contract of spec.l03In.
-/
namespace Go.Proofs.YtjciccjcekcogaaGreatDoor
open Go.RowKit

/-- A row of numbers that can be read, below block B. -/
def IntsAt (w : World) (a : Option Addr) (len B : Nat) (K : List Int) : Prop :=
  K.length = len ∧ ∀ j (h : j < K.length), ∃ b off, a = some ⟨b, off, none⟩ ∧ b < B ∧ w.cell? ⟨b, off + j, none⟩ = some (.int .i64 K[j])

theorem IntsAt.below {w w' : World} {a : Option Addr} {len B C : Nat} {K : List Int} (h : IntsAt w a len B K) (hb : Below C w w') (hC : B ≤ C) : IntsAt w' a len B K := by
  refine ⟨h.1, fun j hj => ?_⟩
  obtain ⟨b, off, e, hbB, hc⟩ := h.2 j hj
  exact ⟨b, off, e, hbB, by rw [hb.cell (p := ⟨b, off + j, none⟩) (by simp; omega)]; exact hc⟩

/-- Whether a number is on a list. -/
def inK (K : List Int) (x : Int) : Bool := K.contains x

theorem inK_take_succ (K : List Int) (x : Int) (k : Nat) (h : k < K.length) (hno : inK (K.take k) x = false) (hk : (K[k] == x) = false) : inK (K.take (k + 1)) x = false := by
  unfold inK at *
  rw [List.take_succ_eq_append_getElem h, List.contains_eq_any_beq, List.any_append]
  rw [List.contains_eq_any_beq] at hno
  have hk' : (x == K[k]) = false := by rw [BEq.comm]; exact hk
  simp only [hno, List.any_cons, List.any_nil, hk', Bool.or_false]

theorem inK_of_mem {K : List Int} {x : Int} (h : x ∈ K) : inK K x = true := by unfold inK; rw [List.contains_iff_mem]; exact h

set_option maxRecDepth 100000 in
set_option maxHeartbeats 1000000 in
theorem l03In_any (a : Option Addr) (n c B : Nat) (K : List Int) (x : Int) (hn : n ≤ 1048576) (w : World) (hK : IntsAt w a n B K) :
    Calls Tryz.prog 19 #[.slice a n c, .int .i64 x] w fun e w' => e = .returned (.bool (inK K x)) ∧ w' = w := by
  obtain ⟨hL, hc⟩ := hK
  have HC := hide hc
  have HN := hide hL
  clear hc hL
  go_enter Tryz.func19, Tryz.ntmps19
  go_wp2_with fail
  go_loop [5] (fun i => ∃ k : Nat, i = .int .i64 k ∧ k ≤ n ∧ Hid (inK (K.take k) x = false)) (fun i => n - (intOf i).toNat)
  case atStart => exact ⟨0, rfl, Nat.zero_le _, rfl⟩
  case round =>
    obtain ⟨k, rfl, hk, hall⟩ := hrel
    by_cases hlt : k < n
    · have hkL : k < K.length := by have := unhide HN; omega
      obtain ⟨b, off, rfl, hbB, hcell⟩ := unhide HC k hkL
      have hx0 : (0 : Int) ≤ (k : Int) := by omega
      have hx1 : (k : Int) < (n : Int) := by omega
      have HS := hide (inK_take_succ K x k hkL (unhide hall))
      have HM := hide (List.getElem_mem hkL)
      generalize K[k] = y at hcell HS HM
      cases hq : (y == x)
      · go_wp2
        go_round
        case rel => exact ⟨k + 1, by go_num, by omega, unhide HS hq⟩
        case measure => simp [intOf]; omega
      · have HE : Hid (inK K x = true) := by
          show _ = _
          have e : y = x := by simpa using hq
          exact inK_of_mem (e ▸ unhide HM)
        go_wp2
        go_ret
        exact ⟨by rw [unhide HE]; rfl, rfl⟩
    · have HE : Hid (inK K x = false) := by
        have h := unhide hall
        rw [List.take_of_length_le (by have := unhide HN; omega)] at h
        exact h
      go_wp2
      go_ret
      exact ⟨by rw [unhide HE]; rfl, rfl⟩
end Go.Proofs.YtjciccjcekcogaaGreatDoor

/-
  Rows of numbers: what the laws do with them (the texts of Ints, TrInts and IntsOpen, over the base of graphs).
-/
namespace Go.Proofs.YtjciccjcekcogaaGreatDoor
namespace Gr
open Go.ChangeShapes Go.WideShapes Go.ChangeAt Go.RowKit

theorem info3 : (Tryz.prog.info? 3).map (fun i => (i.zero, i.size, i.bytes)) = some (some (.int .i64 0), 1, 8) := by kernel_rfl

def intsV (K : List Int) : List Value := K.map (Value.int .i64)

theorem intsV_set (K : List Int) (i : Nat) (x : Int) : (intsV K).set i (.int .i64 x) = intsV (K.set i x) := by simp [intsV, List.map_set]

theorem made_ints (n : Nat) (M : Array Value) (hM : M = madeCells (Value.int .i64 0).cells (n * 1)) : M.toList = intsV (List.replicate n 0) ∧ M.size = n * 1 := by
  constructor
  · rw [hM]
    simp [madeCells, intsV, Value.cells]
    refine List.eq_replicate_iff.2 ⟨by simp, fun b hb => ?_⟩
    obtain ⟨x, _, rfl⟩ := List.mem_map.1 hb
    simp [Nat.mod_one]
  · rw [hM, size_madeCells]

theorem intsAt_of_own {w : World} {B : Nat} {v : Value} {n : Nat} {K : List Int} (h : w.ownsRow B 3 1 v n (intsV K)) : ∃ a c, v = .slice a n c ∧ IntsAt w a n w.heap.size K := by
  have hl : K.length = n := by have := h.1; simp [intsV] at this; omega
  rcases h.2 with ⟨rfl, h0⟩ | ⟨g, cap, cur, rfl, hg, hh, _⟩
  · subst h0
    exact ⟨none, 0, rfl, hl, fun j hj => by omega⟩
  · refine ⟨_, _, rfl, hl, fun j hj => ⟨g, 0, rfl, (h.lt g rfl).2, ?_⟩⟩
    rw [Nat.zero_add, h.cellAt j (by omega)]
    simp [intsV, hj]

/-- The marks of n numbers from k on. -/
def marksN (k n : Nat) : List Int := (List.range n).map fun i => ((k + i : Nat) : Int)

theorem marksN_length (k n : Nat) : (marksN k n).length = n := by simp [marksN]
theorem marksN_at (k n i : Nat) (h : i < (marksN k n).length) : (marksN k n)[i] = ((k + i : Nat) : Int) := by simp [marksN]

theorem ints_open {H : Type} {enc : TypeId × Value → H} {W : World} {spare : Nat → Bool} {held : Bool} {fuel : Nat} {v : Value} {x : DataW H × List MemPlace} (hsp : ∀ b, spare b = true)
    (h : DataW.trod enc Tryz.prog W 0 spare held fuel 33 v.cells.toList = some x) :
    ∃ a n c K, v.cells.toList = [.slice a n c] ∧ IntsAt W a n W.heap.size K ∧ (∀ x ∈ K, (Lit.int .i64 x).wf = true) ∧ n ≤ 9223372036854775807 := by
  rcases open_ints Tryz.underlying33 Tryz.underlying3 cells_int h with ⟨hcs, _⟩ | ⟨a, len, cap, zs, hcs, _, hl, hm, hz, _, hcell, hwz⟩
  · exact ⟨none, 0, 0, [], hcs, ⟨rfl, fun j hj => by simp at hj⟩, by simp, by omega⟩
  · rw [if_pos (hsp _)] at hz
    refine ⟨some a, len, cap, zs.take len, hcs, ⟨by simp; omega, fun j hj => ?_⟩, fun x hx => hwz x (List.mem_of_mem_take hx), ?_⟩
    · have hj1 : j < len := by simp at hj; omega
      have hc := hcell j (by omega)
      obtain ⟨b, off, spot⟩ := a
      have hspot : spot = none := by simpa [Addr.add] using World.cell?_spot (hcell 0 (by omega))
      subst hspot
      rw [Addr.add_lit] at hc
      refine ⟨b, off, rfl, by simpa using World.block_lt_of_cell? W _ hc, ?_⟩
      rw [hc]
      have hjs : j < zs.length := by omega
      simp [hjs]
    · unfold maxLen at hm
      omega

end Gr
end Go.Proofs.YtjciccjcekcogaaGreatDoor

/-
  Lists of numbers as a kind of values that the laws hand about (out of GrKinds).
-/
namespace Go.Proofs.YtjciccjcekcogaaGreatDoor
namespace Gr
open Go.ChangeShapes Go.WideShapes Go.ChangeAt Go.RowKit

def InAt (w : World) (v : Value) (B : Nat) (K : List Int) : Prop := ∃ a c, v = .slice a K.length c ∧ IntsAt w a K.length B K
def InOwn (w : World) (B : Nat) (v : Value) (K : List Int) : Prop := w.ownsRow B 3 1 v K.length (intsV K)
def InBlk (v : Value) (g : Nat) : Prop := v.ownBlock = some g

theorem InAt.shape {w : World} {v : Value} {B : Nat} {K : List Int} (h : InAt w v B K) : ∃ a c, v = .slice a K.length c := by
  obtain ⟨a, c, rfl, _⟩ := h
  exact ⟨a, c, rfl⟩

theorem InAt.below {w w' : World} {v : Value} {B C : Nat} {K : List Int} (h : InAt w v B K) (hb : Below C w w') (hC : B ≤ C) : InAt w' v B K := by
  obtain ⟨a, c, rfl, hQ⟩ := h
  exact ⟨a, c, rfl, hQ.below hb hC⟩

theorem InAt.mono {w : World} {v : Value} {B C : Nat} {K : List Int} (h : InAt w v B K) (hC : B ≤ C) : InAt w v C K := by
  obtain ⟨a, c, rfl, h1, h2⟩ := h
  refine ⟨a, c, rfl, h1, fun j hj => ?_⟩
  obtain ⟨b, off, e, hb, hc⟩ := h2 j hj
  exact ⟨b, off, e, by omega, hc⟩

theorem InOwn.at {w : World} {B : Nat} {v : Value} {K : List Int} (h : InOwn w B v K) : InAt w v w.heap.size K := by
  obtain ⟨a, c, rfl, hQ⟩ := intsAt_of_own h
  exact ⟨a, c, rfl, hQ⟩

theorem InOwn.below {w w' : World} {B : Nat} {v : Value} {K : List Int} (h : InOwn w B v K) (hb : Below w.heap.size w w') : InOwn w' B v K := own_below h hb

theorem InOwn.lower {w : World} {B C : Nat} {v : Value} {K : List Int} (h : InOwn w B v K) (hC : C ≤ B) : InOwn w C v K := own_lower hC h

theorem InOwn.blk {w : World} {B : Nat} {v : Value} {K : List Int} (h : InOwn w B v K) : ∀ g, InBlk v g → B ≤ g ∧ g < w.heap.size := fun g hg => World.ownsRow.lt h g hg

theorem InOwn.kept {S : Nat → Prop} {w w' : World} {B : Nat} {v : Value} {K : List Int} (h : InOwn w B v K) (hk : Kept S w w') (hS : ∀ g, InBlk v g → ¬ S g) : InOwn w' B v K := hk.own h hS

set_option maxRecDepth 100000 in
theorem ints_in {H : Type} {enc : TypeId × Value → H} {W : World} {r : Reach} {b0 : Nat} {v : Value} {d : DataW H} {p : List MemPlace}
    (hv : Value.okWide Tryz.prog W r b0 33 v) (h : DataW.Trod enc Tryz.prog W 0 (fun _ => true) true 33 v d p) : ∃ K, InAt W v W.heap.size K ∧ K.length ≤ 9223372036854775807 := by
  obtain ⟨a, n, c, rfl⟩ := okWide_slice Tryz.underlying33 hv
  obtain ⟨fuel, hf⟩ := h
  obtain ⟨a', n', c', K, hcs, hK, _, hn⟩ := ints_open (fun _ => rfl) hf
  simp [Value.cells] at hcs
  obtain ⟨rfl, rfl, rfl⟩ := hcs
  obtain rfl : n = K.length := hK.1.symm
  exact ⟨K, ⟨a, c, rfl, hK⟩, hn⟩

end Gr
end Go.Proofs.YtjciccjcekcogaaGreatDoor
