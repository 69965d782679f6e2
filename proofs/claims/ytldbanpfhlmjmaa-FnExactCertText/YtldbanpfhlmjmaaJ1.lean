/-
  Texts of this claim, one behind the other: Base, GrBase, GrGrown, IntsAt, GrInts, StepCall, GrBlk, GrBlkS, WMath, WVar, GrVB, GrBld.
-/
import Derived.WalkKit
import Derived.ProofKit
import Derived.OpenShut
import Derived.WalkSpells
import Derived.WalkSmall
import Derived.WalkLawsBesides
import Derived.Deep.QuietTactic
import Derived.BigQuiet
import Derived.Laws.BitsAllLaws
import Derived.Laws.BytesArg
import Derived.Laws.IdiomStrings
import Derived.Test.YtldbanpfhlmjmaaProg
import Derived.Handy
import Derived.Deep.AppendLies
import Derived.Deep.RegionHeld3
import Derived.Lib.SmallJoins
import Derived.SliceStrings
import Derived.ShutString
import Derived.Deep.RegionLaw
import Derived.Lib.Builder
import Derived.Lib.AppendStr
import Derived.Lib.UnsafeStr
import Derived.Lib.OthersKept
import Derived.Lib.Walk
import Derived.Laws.Externs

/-
  Plain lemmas on rows of bytes that the other texts of this seat lean on. No condition.
-/
namespace Go.Proofs.Ytldbanpfhlmjmaa
open Go.RowKit

theorem hide {p : Prop} (h : p) : Hid p := h
theorem unhide {p : Prop} (h : Hid p) : p := h

def bytesV (l : List UInt8) : List Value := l.map fun b => Value.int .u8 (b.toNat : Int)

theorem bytesV_snoc (l : List UInt8) (c : UInt8) : bytesV l ++ [Value.int .u8 (c.toNat : Int)] = bytesV (l ++ [c]) := by
  simp [bytesV]

theorem bytesV_length (l : List UInt8) : (bytesV l).length = l.length := by simp [bytesV]

theorem toNat_ofNat_small (n : Nat) (h : n < 256) : (UInt8.ofNat n).toNat = n := by
  simp [UInt8.toNat_ofNat']; omega

theorem convert_own {P : Program} (w : World) (src dst e : TypeId) (base : Nat) (v : Value) (l : List UInt8) (hs : P.underlying src = some (.slice e)) (he : P.underlying e = some (.int .u8))
    (hd : P.underlying dst = some .string) (hown : w.ownsRow base e 1 v l.length (bytesV l)) : (convert src dst v).run P w = .ok (.string ⟨l.toArray⟩) w := by
  have hown0 := hown
  rcases hown.2 with ⟨rfl, h0⟩ | ⟨g, cap, cur, rfl, hg, hh, hnc, hcp, hcs, htake⟩
  · obtain rfl : l = [] := List.length_eq_zero_iff.1 h0
    exact run_convert_bytes_nil w src e hs he 0 0 dst hd
  · refine run_convert_bytes_back w src dst e ⟨g, 0, none⟩ cap l hs he hd fun j hj => ?_
    rw [Addr.add_lit, Nat.zero_add, hown0.cellAt j (by omega)]
    simp [bytesV, hj]

theorem own_snoc {w1 : World} {B e : Nat} {v' : Value} {pre : List UInt8} {c : UInt8} {x : Int} (hx : x = (c.toNat : Int))
    (h : w1.ownsRow B e 1 v' (pre.length + 1) (bytesV pre ++ [.int .u8 x])) : w1.ownsRow B e 1 v' (pre ++ [c]).length (bytesV (pre ++ [c])) := by
  rw [hx, bytesV_snoc] at h
  simpa using h

theorem one_byte (x : Int) : ∀ u, u ∈ [Value.int .u8 x] → u.oneCell' = true := by
  intro u hu; simp at hu; subst hu; rfl

theorem below_append {B : Nat} {w wr w1 : World} {o : Obj} {e size n : Nat} {v : Value} {xs : List Value} (hb : Below B w wr) (hB : B ≤ w.heap.size) (hown : wr.ownsRow B e size v n xs)
    (hg : (wr.alloc o).grownBy w1 v.ownBlock) : Below B w w1 := by
  have hs := hb.size
  exact (hb.alloc (by omega) o).grown hg (by simp; omega) (fun k hk => (hown.lt k hk).1)

theorem two_bytes (x y : Int) : ∀ u, u ∈ [Value.int .u8 x, Value.int .u8 y] → u.oneCell' = true := by
  intro u hu; simp at hu; rcases hu with rfl | rfl <;> rfl

theorem own_two {w1 : World} {B e : Nat} {v' : Value} {pre : List UInt8} {c d : UInt8} {x y : Int} (hx : x = (c.toNat : Int)) (hy : y = (d.toNat : Int))
    (h : w1.ownsRow B e 1 v' (pre.length + 2) (bytesV pre ++ [.int .u8 x, .int .u8 y])) : w1.ownsRow B e 1 v' (pre ++ [c, d]).length (bytesV (pre ++ [c, d])) := by
  subst hx hy
  simpa [bytesV] using h

theorem below_append_drew {B : Nat} {w wr w1 : World} {o : Obj} {e size n : Nat} {v : Value} {xs : List Value} (hb : Below B w wr) (hB : B ≤ w.heap.size) (hown : wr.ownsRow B e size v n xs)
    (hg : (wr.alloc o).drew.grownBy w1 v.ownBlock) : Below B w w1 := by
  have hs := hb.size
  exact ((hb.alloc (by omega) o).drew).grown hg (by simp; omega) (fun k hk => (hown.lt k hk).1)
end Go.Proofs.Ytldbanpfhlmjmaa

/-
  What texts over rows of numbers lean on: what is as it was but for some blocks; lists that are written over from their beginning. Of its own namespace, so that no other text's names meet it.
-/
namespace Go.Proofs.Ytldbanpfhlmjmaa
namespace Gr
open Go.RowKit

/-- Nothing of old memory is turned but blocks in S. -/
def Kept (S : Nat → Prop) (w w' : World) : Prop :=
  w'.os = w.os ∧ w'.tape = w.tape ∧ w'.output = w.output ∧ w.heap.size ≤ w'.heap.size ∧ ∀ i, i < w.heap.size → ¬ S i → w'.heap[i]? = w.heap[i]?

theorem Kept.refl (S : Nat → Prop) (w : World) : Kept S w w := ⟨rfl, rfl, rfl, Nat.le_refl _, fun _ _ _ => rfl⟩

theorem Kept.trans {S : Nat → Prop} {a b c : World} (h : Kept S a b) (k : Kept S b c) : Kept S a c :=
  ⟨k.1.trans h.1, k.2.1.trans h.2.1, k.2.2.1.trans h.2.2.1, Nat.le_trans h.2.2.2.1 k.2.2.2.1, fun i hi hn => (k.2.2.2.2 i (Nat.lt_of_lt_of_le hi h.2.2.2.1) hn).trans (h.2.2.2.2 i hi hn)⟩

theorem Kept.weak {S T : Nat → Prop} {w w' : World} (h : Kept S w w') (hST : ∀ i, S i → T i) : Kept T w w' :=
  ⟨h.1, h.2.1, h.2.2.1, h.2.2.2.1, fun i hi hn => h.2.2.2.2 i hi (fun hs => hn (hST i hs))⟩

theorem Kept.of_below {S : Nat → Prop} {w w' : World} (h : Below w.heap.size w w') : Kept S w w' :=
  ⟨h.os, h.tape, h.output, h.size, fun i hi _ => h.block i hi⟩

theorem Kept.below {S : Nat → Prop} {w w' : World} {B : Nat} (h : Kept S w w') (hB : B ≤ w.heap.size) (hS : ∀ i, S i → B ≤ i) : Below B w w' :=
  ⟨h.1, h.2.1, h.2.2.1, h.2.2.2.1, fun i hi => h.2.2.2.2 i (by omega) (fun hs => by have := hS i hs; omega)⟩

theorem Kept.set {S : Nat → Prop} (w : World) (g j : Nat) (v : Value) (hg : S g) : Kept S w (w.setCell ⟨g, j, none⟩ v) :=
  ⟨rfl, rfl, rfl, by simp [World.setCell], fun i _ hn => Below.heap_setCell _ _ _ _ (fun e => hn (by rw [e]; exact hg))⟩

theorem Kept.drew {S : Nat → Prop} {w w' : World} (h : Kept S w w') : Kept S w w'.drew := h

theorem Kept.own {S : Nat → Prop} {w w' : World} {B e size n : Nat} {v : Value} {xs : List Value} (h : Kept S w w') (ho : w.ownsRow B e size v n xs) (hS : ∀ g, v.ownBlock = some g → ¬ S g) : w'.ownsRow B e size v n xs := by
  obtain ⟨h1, h2⟩ := ho
  refine ⟨h1, ?_⟩
  rcases h2 with h2 | ⟨g, cap, cur, rfl, a2, a3, a4⟩
  · exact .inl h2
  · refine .inr ⟨g, cap, cur, rfl, a2, ?_, a4⟩
    rw [h.2.2.2.2 g ?_ (hS g rfl)]
    · exact a3
    · rcases Nat.lt_or_ge g w.heap.size with h | h
      · exact h
      · rw [Array.getElem?_eq_none h] at a3; cases a3

/-- The first j of a list, and of another one the rest. -/
def over {α : Type} (M L : List α) (j : Nat) : List α := M.take j ++ L.drop j

theorem over_zero {α : Type} (M L : List α) : over M L 0 = L := by simp [over]
theorem over_all {α : Type} (M L : List α) (h : M.length = L.length) : over M L L.length = M := by simp [over, ← h]
theorem over_length {α : Type} (M L : List α) (j : Nat) (h : M.length = L.length) (hj : j ≤ L.length) : (over M L j).length = L.length := by simp [over]; omega

theorem over_set {α : Type} (M L : List α) (j : Nat) (h : M.length = L.length) (hj : j < L.length) : (over M L j).set j (M[j]'(by omega)) = over M L (j + 1) := by
  unfold over
  have e : (M.take j).length = j := by simp; omega
  rw [List.set_append_right _ _ (by omega), e, Nat.sub_self]
  have e2 : L.drop j = L[j] :: L.drop (j + 1) := (List.getElem_cons_drop hj).symm
  rw [e2, List.set_cons_zero, List.take_succ_eq_append_getElem (by omega), List.append_assoc]
  rfl

theorem Kept.of_grown {w w' : World} {row : Option Nat} (h : w.grownBy w' row) : Kept (fun k => row = some k) w w' :=
  ⟨h.os, h.tape, h.output, h.size, fun i hi hn => h.block i hi (fun e => hn e.symm)⟩

theorem own_below {B : Nat} {e : TypeId} {k : Nat} {v : Value} {n : Nat} {xs : List Value} {w w' : World} (h : w.ownsRow B e k v n xs) (hb : Below w.heap.size w w') : w'.ownsRow B e k v n xs :=
  h.kept (row := none) ⟨hb.os, hb.tape, hb.output, hb.size, fun j hj _ => hb.block j hj⟩ (by cases hv : v.ownBlock <;> simp)

theorem own_lower {w : World} {B C e size n : Nat} {v : Value} {xs : List Value} (hB : C ≤ B) (h : w.ownsRow B e size v n xs) : w.ownsRow C e size v n xs := by
  obtain ⟨h1, h2⟩ := h
  refine ⟨h1, ?_⟩
  rcases h2 with h2 | ⟨g, cap, cur, a1, a2, a3⟩
  · exact .inl h2
  · exact .inr ⟨g, cap, cur, a1, Nat.le_trans hB a2, a3⟩

theorem cells_of_two {w : World} {g : Nat} {x y : Value} {t : TypeId} (h : w.heap[g]? = some (.cells #[x, y] t (0, 0))) :
    w.cell? ⟨g, 0, none⟩ = some x ∧ w.cell? ⟨g, 1, none⟩ = some y ∧ ∀ j, w.frozen? ⟨g, j, none⟩ = false := by
  refine ⟨?_, ?_, fun j => ?_⟩
  · rw [cell_of_row w g 0 _ t (0, 0) h]; rfl
  · rw [cell_of_row w g 1 _ t (0, 0) h]; rfl
  · exact frozen_of_row w g j _ t h

theorem two_zero {w : World} {g : Nat} {x y : Value} {t : TypeId} (h : w.heap[g]? = some (.cells #[x, y] t (0, 0))) (u : Value) :
    (w.setCell ⟨g, 0, none⟩ u).heap[g]? = some (.cells #[u, y] t (0, 0)) := heap_setCell_same w g 0 _ t u h

theorem two_one {w : World} {g : Nat} {x y : Value} {t : TypeId} (h : w.heap[g]? = some (.cells #[x, y] t (0, 0))) (u : Value) :
    (w.setCell ⟨g, 1, none⟩ u).heap[g]? = some (.cells #[x, u] t (0, 0)) := heap_setCell_same w g 1 _ t u h

/-- The first k of a list, and something else up to its length. -/
def part {α : Type} (L : List α) (z : α) (k : Nat) : List α := L.take k ++ List.replicate (L.length - k) z

theorem part_zero {α : Type} (L : List α) (z : α) : part L z 0 = List.replicate L.length z := by simp [part]
theorem part_all {α : Type} (L : List α) (z : α) : part L z L.length = L := by simp [part]
theorem part_length {α : Type} (L : List α) (z : α) (k : Nat) (h : k ≤ L.length) : (part L z k).length = L.length := by simp [part]; omega

theorem part_set {α : Type} (L : List α) (z : α) (k : Nat) (h : k < L.length) : (part L z k).set k L[k] = part L z (k + 1) := by
  unfold part
  rw [List.set_append_right _ _ (by simp; omega)]
  have e : L.length - k = (L.length - (k + 1)) + 1 := by omega
  rw [e, List.replicate_succ, List.take_succ_eq_append_getElem h]
  have e2 : k - (L.take k).length = 0 := by simp; omega
  rw [e2, List.set_cons_zero, List.append_assoc]
  rfl

theorem below_new (w : World) (o : Obj) : Below w.heap.size w (w.alloc o) := (Below.refl _ _).alloc (Nat.le_refl _) _

theorem cells_int : Try.prog.cellsOf 3 = 1 := by kernel_rfl

end Gr
end Go.Proofs.Ytldbanpfhlmjmaa

/-
  A region that draws its order, whose own operations only read and whose callees read and make new memory alone: walked once, in the order of the text. The class of worlds is: what the world at the region's beginning has become with nothing turned below N.
-/
namespace Go.Proofs.Ytldbanpfhlmjmaa
namespace Gr
open Go.RowKit

/-- A world that another one has become, nothing turned below N. -/
structure Grown (N : Nat) (W : World) where
  w : World
  below : Below N W w

instance (N : Nat) (W : World) : Nonempty (Grown N W) := ⟨⟨W, Below.refl _ _⟩⟩

theorem wp_region_grown {P : Program} {id : Nat} {Q : Exit → Act → World → Prop} {a : Act} {w : World} {l : List Oper} (N : Nat) (hm : P.follows .mixedOrders = true) (hB : Region.lexB .any l.toArray = true)
    (h : wpQuiet P l.toArray (fun w' => ∃ d : Grown N w, w' = d.w) (fun a' => ∀ w', (∃ d : Grown N w, w' = d.w) → Q .normal a' w') l a) : (Code.region id l.toArray true).wp P Q a w := by
  refine wp_region_quiet (C := fun w' => ∃ d : Grown N w, w' = d.w) hm hB ⟨⟨w.drew, (Below.refl N w).drew⟩, rfl⟩ ?_
  rw [List.toList_toArray]
  exact h

/-- A callee's contract, met in a grown world. -/
theorem Calls.grown {P : Program} {f : FuncId} {args : Array Value} {N : Nat} {W : World} {d : Grown N W} {v : Value} (hN : N ≤ W.heap.size)
    (h : Calls P f args d.w fun e w' => e = .returned v ∧ Below d.w.heap.size d.w w') : Calls P f args d.w fun e w'' => e = .returned v ∧ ∃ d' : Grown N W, w'' = d'.w :=
  h.mono fun _ w' ⟨he, hb⟩ => ⟨he, ⟨⟨w', d.below.trans (hb.mono (Nat.le_trans hN d.below.size))⟩, rfl⟩⟩

/-- .. of a callee that leaves the world alone. -/
theorem Calls.grown_same {P : Program} {f : FuncId} {args : Array Value} {N : Nat} {W : World} {d : Grown N W} {v : Value}
    (h : Calls P f args d.w fun e w' => e = .returned v ∧ w' = d.w) : Calls P f args d.w fun e w'' => e = .returned v ∧ ∃ d' : Grown N W, w'' = d'.w :=
  h.mono fun _ _ ⟨he, hw⟩ => ⟨he, d, hw⟩

theorem Grown.cell {N : Nat} {W : World} (d : Grown N W) {b o : Nat} {v : Value} (hb : b < N) (h : W.cell? ⟨b, o, none⟩ = some v) : d.w.cell? ⟨b, o, none⟩ = some v :=
  (d.below.cell (p := ⟨b, o, none⟩) hb).trans h

end Gr
end Go.Proofs.Ytldbanpfhlmjmaa

/-
  Rows of numbers in memory; the contract of spec.l03In.
-/
namespace Go.Proofs.Ytldbanpfhlmjmaa
open Go.RowKit

/-- A row of numbers that can be read, below block B. -/
def IntsAt (w : World) (a : Option Addr) (len B : Nat) (K : List Int) : Prop :=
  K.length = len ∧ ∀ j (h : j < K.length), ∃ b off, a = some ⟨b, off, none⟩ ∧ b < B ∧ w.cell? ⟨b, off + j, none⟩ = some (.int .i64 K[j])

theorem IntsAt.below {w w' : World} {a : Option Addr} {len B C : Nat} {K : List Int} (h : IntsAt w a len B K) (hb : Below C w w') (hC : B ≤ C) : IntsAt w' a len B K := by
  refine ⟨h.1, fun j hj => ?_⟩
  obtain ⟨b, off, e, hbB, hc⟩ := h.2 j hj
  exact ⟨b, off, e, hbB, by rw [hb.cell (p := ⟨b, off + j, none⟩) (by simp; omega)]; exact hc⟩

/-- Whether a number is on a list. -/
def inK (K : List Int) (x : Int) : Bool := K.contains x

theorem inK_take_succ (K : List Int) (x : Int) (k : Nat) (h : k < K.length) (hno : inK (K.take k) x = false) (hk : (K[k] == x) = false) : inK (K.take (k + 1)) x = false := by
  unfold inK at *
  rw [List.take_succ_eq_append_getElem h, List.contains_eq_any_beq, List.any_append]
  rw [List.contains_eq_any_beq] at hno
  have hk' : (x == K[k]) = false := by rw [BEq.comm]; exact hk
  simp only [hno, List.any_cons, List.any_nil, hk', Bool.or_false]

theorem inK_of_mem {K : List Int} {x : Int} (h : x ∈ K) : inK K x = true := by unfold inK; rw [List.contains_iff_mem]; exact h

set_option maxRecDepth 100000 in
set_option maxHeartbeats 1000000 in
theorem l03In_any (a : Option Addr) (n c B : Nat) (K : List Int) (x : Int) (hn : n ≤ 1048576) (w : World) (hK : IntsAt w a n B K) :
    Calls Try.prog 60 #[.slice a n c, .int .i64 x] w fun e w' => e = .returned (.bool (inK K x)) ∧ w' = w := by
  obtain ⟨hL, hc⟩ := hK
  have HC := hide hc
  have HN := hide hL
  clear hc hL
  go_enter Try.func60, Try.ntmps60
  go_wp2_with fail
  go_loop [5] (fun i => ∃ k : Nat, i = .int .i64 k ∧ k ≤ n ∧ Hid (inK (K.take k) x = false)) (fun i => n - (intOf i).toNat)
  case atStart => exact ⟨0, rfl, Nat.zero_le _, rfl⟩
  case round =>
    obtain ⟨k, rfl, hk, hall⟩ := hrel
    by_cases hlt : k < n
    · have hkL : k < K.length := by have := unhide HN; omega
      obtain ⟨b, off, rfl, hbB, hcell⟩ := unhide HC k hkL
      have hx0 : (0 : Int) ≤ (k : Int) := by omega
      have hx1 : (k : Int) < (n : Int) := by omega
      have HS := hide (inK_take_succ K x k hkL (unhide hall))
      have HM := hide (List.getElem_mem hkL)
      generalize K[k] = y at hcell HS HM
      cases hq : (y == x)
      · go_wp2
        go_round
        case rel => exact ⟨k + 1, by go_num, by omega, unhide HS hq⟩
        case measure => simp [intOf]; omega
      · have HE : Hid (inK K x = true) := by
          show _ = _
          have e : y = x := by simpa using hq
          exact inK_of_mem (e ▸ unhide HM)
        go_wp2
        go_ret
        exact ⟨by rw [unhide HE]; rfl, rfl⟩
    · have HE : Hid (inK K x = false) := by
        have h := unhide hall
        rw [List.take_of_length_le (by have := unhide HN; omega)] at h
        exact h
      go_wp2
      go_ret
      exact ⟨by rw [unhide HE]; rfl, rfl⟩
end Go.Proofs.Ytldbanpfhlmjmaa

/-
  Rows of numbers: what the laws do with them (the texts of Ints, TrInts and IntsOpen, over the base of graphs).
-/
namespace Go.Proofs.Ytldbanpfhlmjmaa
namespace Gr
open Go.ChangeShapes Go.WideShapes Go.ChangeAt Go.RowKit

theorem info3 : (Try.prog.info? 3).map (fun i => (i.zero, i.size, i.bytes)) = some (some (.int .i64 0), 1, 8) := by kernel_rfl

def intsV (K : List Int) : List Value := K.map (Value.int .i64)

theorem intsV_set (K : List Int) (i : Nat) (x : Int) : (intsV K).set i (.int .i64 x) = intsV (K.set i x) := by simp [intsV, List.map_set]

theorem made_ints (n : Nat) (M : Array Value) (hM : M = madeCells (Value.int .i64 0).cells (n * 1)) : M.toList = intsV (List.replicate n 0) ∧ M.size = n * 1 := by
  constructor
  · rw [hM]
    simp [madeCells, intsV, Value.cells]
    refine List.eq_replicate_iff.2 ⟨by simp, fun b hb => ?_⟩
    obtain ⟨x, _, rfl⟩ := List.mem_map.1 hb
    simp [Nat.mod_one]
  · rw [hM, size_madeCells]

set_option maxRecDepth 100000 in
set_option maxHeartbeats 1000000 in
theorem toInts_any (a : Option Addr) (len cap B : Nat) (L : List Int) (hlen : len ≤ 1048576) (w : World) (hB : B ≤ w.heap.size) (hs : IntsAt w a len B L) :
    Calls Try.prog 42 #[.slice a len cap] w fun e w' => (∃ v, e = .returned v ∧ w'.ownsRow w.heap.size 3 1 v len (intsV L)) ∧ Below w.heap.size w w' := by
  obtain ⟨hL, hc⟩ := hs
  obtain ⟨i0, hi, hz0, hz1, hz2⟩ := info_parts info3
  obtain ⟨M, hM⟩ : ∃ M, M = madeCells (Value.int .i64 0).cells (len * i0.size) := ⟨_, rfl⟩
  have hMM := made_ints len M (by rw [hM, hz1])
  have hmk : ∀ W : World, (Instr.makeSlice 26 (.int .i64 (len : Int)) (.int .i64 (len : Int))).run Try.prog W = .ok (.slice (some ⟨W.heap.size, 0, none⟩) len len) (W.alloc (.cells M 3)) := fun W => by
    have h := run_make (P := Try.prog) W 26 3 i0 (.int .i64 0) Try.underlying26 hi hz0 .i64 .i64 (len : Int) (len : Int) (by omega) (by omega) (by rw [hz2]; omega) (by omega)
    rw [Int.toNat_natCast, ← hM] at h
    simpa using h
  have hown0 : (w.alloc (.cells M 3)).ownsRow w.heap.size 3 1 (.slice (some ⟨w.heap.size, 0, none⟩) len len) len (intsV (part L 0 0)) :=
    ⟨by simp [intsV, part]; omega, .inr ⟨w.heap.size, len, M, rfl, Nat.le_refl _, heap_alloc_new w _, Nat.le_refl _, by unfold maxLen; omega, hMM.2, by rw [hMM.1, part_zero, hL, Nat.mul_one, List.take_of_length_le (by simp [intsV])]⟩⟩
  have HO0 := hide hown0
  have HC := hide hc
  have HL := hide hL
  clear hM hMM hown0 hc hL
  go_enter Try.func42, Try.ntmps42
  go_wp2_with fail
  go_loopw [4] (fun a4 wr => ∃ k : Nat, a4 = .int .i64 k ∧ k ≤ len ∧ wr.ownsRow w.heap.size 3 1 (.slice (some ⟨w.heap.size, 0, none⟩) len len) len (intsV (part L 0 k)) ∧ Below w.heap.size w wr) (fun a4 _ => len - (intOf a4).toNat)
  case atStart => exact ⟨0, rfl, Nat.zero_le _, unhide HO0, (Below.refl _ _).alloc (Nat.le_refl _) _⟩
  case round =>
    obtain ⟨k, rfl, hk, hown, hb⟩ := hrel
    by_cases hlt : k < len
    · have hkL : k < L.length := by have := unhide HL; omega
      obtain ⟨b, off, rfl, hbB, hcell⟩ := unhide HC k hkL
      rw [← hb.cell (p := ⟨b, off + k, none⟩) (by simp; omega)] at hcell
      have hfz := hown.frozenAt k
      obtain ⟨u, hce⟩ : ∃ u, wr.cell? ⟨w.heap.size, k, none⟩ = some (.int .i64 u) := by
        have hkp : k < (part L 0 k).length := by rw [part_length _ _ _ (by omega)]; omega
        exact ⟨(part L 0 k)[k], by rw [hown.cellAt k (by omega)]; simp [intsV, hkp]⟩
      have hst := (hown.stored k (.int .i64 L[k])).1
      rw [intsV_set, part_set L _ k hkL] at hst
      have HST := hide hst
      have hx0 : (0 : Int) ≤ (k : Int) := by omega
      have hx1 : (k : Int) < (len : Int) := by omega
      generalize L[k] = s at hcell HST
      clear hst hown
      go_wp2
      go_roundw
      case rel => exact ⟨k + 1, by go_num, by omega, unhide HST, hb.setCell (p := ⟨w.heap.size, k, none⟩) (Nat.le_refl _) _⟩
      case measure => simp [intOf]; omega
    · obtain rfl : k = len := by omega
      have HO := hide hown
      clear hown
      go_wp2
      go_ret
      refine ⟨⟨_, rfl, ?_⟩, hb⟩
      have h := unhide HO
      have e := unhide HL
      subst e
      rw [part_all] at h
      exact h

theorem intsAt_of_own {w : World} {B : Nat} {v : Value} {n : Nat} {K : List Int} (h : w.ownsRow B 3 1 v n (intsV K)) : ∃ a c, v = .slice a n c ∧ IntsAt w a n w.heap.size K := by
  have hl : K.length = n := by have := h.1; simp [intsV] at this; omega
  rcases h.2 with ⟨rfl, h0⟩ | ⟨g, cap, cur, rfl, hg, hh, _⟩
  · subst h0
    exact ⟨none, 0, rfl, hl, fun j hj => by omega⟩
  · refine ⟨_, _, rfl, hl, fun j hj => ⟨g, 0, rfl, (h.lt g rfl).2, ?_⟩⟩
    rw [Nat.zero_add, h.cellAt j (by omega)]
    simp [intsV, hj]

set_option maxRecDepth 100000 in
set_option maxHeartbeats 1000000 in
theorem eqInts_same (a a' : Option Addr) (len c c' B B' : Nat) (L : List Int) (hlen : len ≤ 1048576) (w : World) (hB : B ≤ w.heap.size) (hB' : B' ≤ w.heap.size) (hs : IntsAt w a len B L) (hs' : IntsAt w a' len B' L) :
    Calls Try.prog 51 #[.slice a len c, .slice a' len c'] w fun e w' => e = .returned (.bool true) ∧ Below w.heap.size w w' := by
  obtain ⟨hL, hc⟩ := hs
  obtain ⟨_, hc'⟩ := hs'
  have HC := hide hc
  have HC' := hide hc'
  have HL := hide hL
  clear hc hc' hL
  go_enter Try.func51, Try.ntmps51
  go_wp2_with fail
  go_loopw [5] (fun i wr => ∃ k : Nat, i = .int .i64 k ∧ k ≤ len ∧ Below w.heap.size w wr) (fun i _ => len - (intOf i).toNat)
  case atStart => exact ⟨0, rfl, Nat.zero_le _, Below.refl _ _⟩
  case round =>
    obtain ⟨k, rfl, hk, hb⟩ := hrel
    by_cases hlt : k < len
    · have hkL : k < L.length := by have := unhide HL; omega
      obtain ⟨b, off, rfl, hbB, hcell⟩ := unhide HC k hkL
      obtain ⟨b', off', rfl, hbB', hcell'⟩ := unhide HC' k hkL
      rw [← hb.cell (p := ⟨b, off + k, none⟩) (by simp; omega)] at hcell
      rw [← hb.cell (p := ⟨b', off' + k, none⟩) (by simp; omega)] at hcell'
      have hx0 : (0 : Int) ≤ (k : Int) := by omega
      have hx1 : (k : Int) < (len : Int) := by omega
      generalize L[k] = s at hcell hcell'
      go_wp2_with fail
      go_quiet (fail)
      go_wp2
      go_roundw
      case rel => exact ⟨k + 1, by go_num, by omega, below_drewN hb _⟩
      case measure => simp [intOf]; omega
    · go_wp2
      go_ret
      exact ⟨rfl, hb⟩

/-- The marks of n numbers from k on. -/
def marksN (k n : Nat) : List Int := (List.range n).map fun i => ((k + i : Nat) : Int)

theorem marksN_length (k n : Nat) : (marksN k n).length = n := by simp [marksN]
theorem marksN_at (k n i : Nat) (h : i < (marksN k n).length) : (marksN k n)[i] = ((k + i : Nat) : Int) := by simp [marksN]

theorem ints_open {H : Type} {enc : TypeId × Value → H} {W : World} {spare : Nat → Bool} {held : Bool} {fuel : Nat} {v : Value} {x : DataW H × List MemPlace} (hsp : ∀ b, spare b = true)
    (h : DataW.trod enc Try.prog W 0 spare held fuel 26 v.cells.toList = some x) :
    ∃ a n c K, v.cells.toList = [.slice a n c] ∧ IntsAt W a n W.heap.size K ∧ (∀ x ∈ K, (Lit.int .i64 x).wf = true) ∧ n ≤ 9223372036854775807 := by
  rcases open_ints Try.underlying26 Try.underlying3 cells_int h with ⟨hcs, _⟩ | ⟨a, len, cap, zs, hcs, _, hl, hm, hz, _, hcell, hwz⟩
  · exact ⟨none, 0, 0, [], hcs, ⟨rfl, fun j hj => by simp at hj⟩, by simp, by omega⟩
  · rw [if_pos (hsp _)] at hz
    refine ⟨some a, len, cap, zs.take len, hcs, ⟨by simp; omega, fun j hj => ?_⟩, fun x hx => hwz x (List.mem_of_mem_take hx), ?_⟩
    · have hj1 : j < len := by simp at hj; omega
      have hc := hcell j (by omega)
      obtain ⟨b, off, spot⟩ := a
      have hspot : spot = none := by simpa [Addr.add] using World.cell?_spot (hcell 0 (by omega))
      subst hspot
      rw [Addr.add_lit] at hc
      refine ⟨b, off, rfl, by simpa using World.block_lt_of_cell? W _ hc, ?_⟩
      rw [hc]
      have hjs : j < zs.length := by omega
      simp [hjs]
    · unfold maxLen at hm
      omega

end Gr
end Go.Proofs.Ytldbanpfhlmjmaa

/-
  A call of a Go function as one step of a region that draws its order.
-/
namespace Go.Proofs.Ytldbanpfhlmjmaa

theorem step_call {P : Program} {ops : Array Oper} {o : Oper} {a : Act} {w : World} {K : Act → World → Prop} {Q : Exit → Act → World → Prop} {E : Prop} (hgd : o.guard = none) (f : FuncId) (args : Array Operand) (tys : Array TypeId)
    (ho : o.op = .call { callee := .value (.func f), args := args, argTypes := tys }) (vs : Array Value) (hvs : args.map a.eval = vs) (hf : ∀ vs w, (callFunc f vs).run P w = .ok (.enter f vs) w) (R : Ending → World → Prop) (hc : Calls P f vs w R)
    (hK : ∀ e w', R e w' → ∃ v, e = .returned v ∧ K (a.put o.dst v) w') : if Region.wanted o (yielded ops a.tmps) = true then Oper.wp P o a w K Q else E := by
  have hw : Region.wanted o (yielded ops a.tmps) = true := by simp [Region.wanted, hgd]
  rw [if_pos hw]
  unfold Oper.wp
  have e1 : (execOp a.eval o).run P w = .ok (.enter f vs) w := by
    have h0 : a.eval (.func f) = .func (.func f) #[] #[] := rfl
    simp [execOp, ho, resolve, invoke, h0, hvs, Deferred.ofValue, hf]
  rw [e1, Oper.upon_enter]
  refine hc.mono fun e w' h => ?_
  obtain ⟨v, rfl, hk⟩ := hK e w' h
  exact hk

theorem enterClone (vs : Array Value) (w : World) : (callFunc 31 vs).run Try.prog w = .ok (.enter 31 vs) w := by kernel_rfl

end Go.Proofs.Ytldbanpfhlmjmaa

/-
  What a region that draws its order leaves alone: blocks by their numbers, worlds that have grown behind a number; an append as one step of such a region, of nothing too.
-/
namespace Go.Proofs.Ytldbanpfhlmjmaa
namespace Gr
open Go.RowKit

/-- A block that stands in memory. -/
def Blk (W : World) (g : Nat) (C : Array Value) (t : TypeId) : Prop := W.heap[g]? = some (.cells C t (0, 0))

theorem Blk.lt {W : World} {g : Nat} {C : Array Value} {t : TypeId} (h : Blk W g C t) : g < W.heap.size := by
  unfold Blk at h
  rcases Nat.lt_or_ge g W.heap.size with h1 | h1
  · exact h1
  · rw [Array.getElem?_eq_none h1] at h; cases h

theorem Blk.new {W : World} {g : Nat} {C : Array Value} {t : TypeId} (h : g = W.heap.size) : Blk (W.alloc (.cells C t)) g C t := by
  subst h
  exact heap_alloc_new W _

theorem Blk.new0 {W : World} {C : Array Value} {t : TypeId} : Blk (W.alloc (.cells C t)) W.heap.size C t := heap_alloc_new W _
theorem Blk.new1 {W : World} {o : Obj} {C : Array Value} {t : TypeId} : Blk ((W.alloc o).alloc (.cells C t)) (W.heap.size + 1) C t := Blk.new (by show _ = (W.heap.push o).size; simp)
theorem Blk.new2 {W : World} {o o' : Obj} {C : Array Value} {t : TypeId} : Blk (((W.alloc o).alloc o').alloc (.cells C t)) (W.heap.size + 1 + 1) C t := Blk.new (by show _ = ((W.heap.push o).push o').size; simp)

theorem Blk.alloc {W : World} {g : Nat} {C : Array Value} {t : TypeId} {o : Obj} (h : Blk W g C t) : Blk (W.alloc o) g C t :=
  ((below_new W o).block g h.lt).trans h

theorem alloc_size (W : World) (o : Obj) : (W.alloc o).heap.size = W.heap.size + 1 := by
  show (W.heap.push o).size = _
  simp

theorem drew_size (W : World) : W.drew.heap.size = W.heap.size := rfl

theorem Blk.drew {W : World} {g : Nat} {C : Array Value} {t : TypeId} (h : Blk W g C t) : Blk W.drew g C t := h

theorem Blk.below {W W' : World} {g : Nat} {C : Array Value} {t : TypeId} (h : Blk W g C t) (hb : Below W.heap.size W W') : Blk W' g C t := (hb.block g h.lt).trans h

theorem Blk.grown {W W' : World} {g : Nat} {C : Array Value} {t : TypeId} {row : Option Nat} (h : Blk W g C t) (hg : W.grownBy W' row) (hne : some g ≠ row) : Blk W' g C t := (hg.block g h.lt hne).trans h

theorem Blk.cell {W : World} {g : Nat} {C : Array Value} {t : TypeId} (h : Blk W g C t) (k : Nat) (v : Value) (hv : C[k]? = some v) : W.cell? ⟨g, k, none⟩ = some v := by
  rw [cell_of_row W g k C t (0, 0) h]
  exact hv

theorem Blk.froz {W : World} {g : Nat} {C : Array Value} {t : TypeId} (h : Blk W g C t) (k : Nat) : W.frozen? ⟨g, k, none⟩ = false := by
  unfold World.frozen?
  simp only []
  unfold Blk at h
  rw [h]
  simp

/-- A row of one kind is no block of another kind. -/
theorem Blk.apart {W : World} {g : Nat} {C : Array Value} {t e : TypeId} {base size n : Nat} {v : Value} {xs : List Value} (h : Blk W g C t) (ho : W.ownsRow base e size v n xs) (hne : t ≠ e) : some g ≠ v.ownBlock := by
  rcases ho.2 with ⟨rfl, _⟩ | ⟨g', cap, cur, rfl, _, hg, _⟩
  · simp [Value.ownBlock]
  · intro e'
    have e2 : g = g' := by simpa [Value.ownBlock] using e'
    subst e2
    unfold Blk at h
    rw [h] at hg
    simp at hg
    exact hne hg.2

/-- A world that has grown, nothing turned below wr's size. -/
def Fresh (wr W : World) : Prop := Below wr.heap.size wr W

theorem Fresh.refl (w : World) : Fresh w w := Below.refl _ _
theorem Fresh.drew {w W : World} (h : Fresh w W) : Fresh w W.drew := Below.drew h
theorem Fresh.alloc {w W : World} {o : Obj} (h : Fresh w W) : Fresh w (W.alloc o) := Below.alloc h h.size o
theorem Fresh.below {w W W' : World} (h : Fresh w W) (hb : Below W.heap.size W W') : Fresh w W' := Below.trans h (hb.mono h.size)
theorem Fresh.grown {w W W' : World} {row : Option Nat} (h : Fresh w W) (hg : W.grownBy W' row) (hr : ∀ k, row = some k → w.heap.size ≤ k) : Fresh w W' :=
  Below.grown h hg h.size hr

theorem Fresh.size {w W : World} (h : Fresh w W) : w.heap.size ≤ W.heap.size := Below.size h
theorem Fresh.set {w W : World} {g k : Nat} {x : Value} (h : Fresh w W) (hg : w.heap.size ≤ g) : Fresh w (W.setCell ⟨g, k, none⟩ x) := Below.setCell (p := ⟨g, k, none⟩) h hg x

theorem own_ne {g g' n c : Nat} (h : g ≠ g') : some g ≠ (Value.slice (some ⟨g', 0, none⟩) n c).ownBlock := fun e => h (Option.some.inj e)

theorem own_empty {W : World} {g base : Nat} (h : Blk W g #[] 3) (hb : base ≤ g) : W.ownsRow base 3 1 (.slice (some ⟨g, 0, none⟩) 0 0) 0 [] :=
  ⟨by simp, .inr ⟨g, 0, #[], rfl, hb, h, Nat.zero_le _, by decide, rfl, by simp⟩⟩

/-- An append onto a row of the call's own, of nothing too. -/
theorem step_append_any {P : Program} {ops : Array Oper} {o : Oper} {a : Act} {w : World} {K : Act → World → Prop} {Q : Exit → Act → World → Prop} {E : Prop} (hgd : o.guard = none) (s x : Operand) (t : TypeId)
    (ho : o.op = .call { callee := .builtin .append, args := #[s, x], argTypes := #[t, t] })
    (base : Nat) (e : TypeId) (i : TypeInfo) (z : Value) (size bytes : Nat) (ht : P.underlying t = some (.slice e)) (hi : P.info? e = some i) (hz : i.zero = some z)
    (hsize : i.size = size) (hby : i.bytes = bytes) (hzs : z.cells.size = size) (hsz : 0 < size)
    (v : Value) (n : Nat) (xs : List Value) (hs : a.eval s = v) (hown : w.ownsRow base e size v n xs)
    (ad : Addr) (m c : Nat) (news : List Value) (hx : a.eval x = .slice (some ad) m c) (hl : news.length = m * size) (hnews : ∀ j u, news[j]? = some u → w.cell? (ad.add j) = some u) (h1 : ∀ u ∈ news, u.oneCell' = true)
    (h63 : n + m ≤ maxLen) (hbytes : (n + m) * bytes ≤ 140737488355328) (hbase : base ≤ w.heap.size)
    (h : ∀ v' w', w'.ownsRow base e size v' (n + m) (xs ++ news) → w.grownBy w' v.ownBlock → K (a.put o.dst v') w') :
    if Region.wanted o (yielded ops a.tmps) = true then Oper.wp P o a w K Q else E := by
  have hw : Region.wanted o (yielded ops a.tmps) = true := by simp [Region.wanted, hgd]
  rw [if_pos hw]
  obtain ⟨v', w', hr, h2, h3, _⟩ := run_append_own (P := P) w base t o.type e i z size bytes ht hi hz hsize hby hzs hsz v n xs hown ad m c news hl hnews h1 h63 hbytes hbase
  unfold Oper.wp execOp
  simp only [ho, resolve, invoke, builtin, Sem.run_bind, Sem.run_pure, Result.andThen_ok, List.map_toArray, List.map_cons, List.map_nil, hs, hx, hr]
  exact h v' w' h2 h3

end Gr
end Go.Proofs.Ytldbanpfhlmjmaa

/-
  A block with one cell set; blocks that are kept.
-/
namespace Go.Proofs.Ytldbanpfhlmjmaa
namespace Gr
open Go.RowKit

theorem Blk.set {W : World} {g : Nat} {C : Array Value} {t : TypeId} (h : Blk W g C t) (k : Nat) (x : Value) : Blk (W.setCell ⟨g, k, none⟩ x) g (C.setIfInBounds k x) t := by
  unfold Blk at *
  exact heap_setCell_same W g k _ _ x h

theorem Blk.kept {S : Nat → Prop} {w w' : World} {g : Nat} {C : Array Value} {t : TypeId} (h : Blk w g C t) (hk : Kept S w w') (hS : ¬ S g) : Blk w' g C t := by
  unfold Blk; rw [hk.2.2.2.2 g h.lt hS]; exact h

theorem Blk.set_other {W : World} {g g' : Nat} {C : Array Value} {t : TypeId} (h : Blk W g C t) (hne : g ≠ g') (k : Nat) (x : Value) : Blk (W.setCell ⟨g', k, none⟩ x) g C t :=
  h.kept (S := fun i => i = g') (Kept.set _ _ _ _ rfl) hne

end Gr
end Go.Proofs.Ytldbanpfhlmjmaa

/-
  Plain lemmas on bytes and numbers, and three on rows that a call owns: what the other texts of this seat lean on. No condition.
-/
namespace Go.Proofs.Ytldbanpfhlmjmaa
open Go.RowKit


/-- The bytes of a number by sevens, the lowest first; f: how many may come ahead of the last. -/
def varB : Nat → Nat → List UInt8
  | 0, n => [UInt8.ofNat n]
  | f + 1, n => if 127 < n then UInt8.ofNat (n % 128 + 128) :: varB f (n / 128) else [UInt8.ofNat n]




theorem varB_last (f n : Nat) (h : n ≤ 127) : varB f n = [UInt8.ofNat n] := by
  cases f with
  | zero => rfl
  | succ f => simp only [varB]; rw [if_neg (by omega)]

theorem varB_more (f n : Nat) (h : 127 < n) : varB (f + 1) n = UInt8.ofNat (n % 128 + 128) :: varB f (n / 128) := by
  simp only [varB]; rw [if_pos h]

theorem varB_length (f n : Nat) : (varB f n).length ≤ f + 1 := by
  induction f generalizing n with
  | zero => simp [varB]
  | succ f ih =>
    simp only [varB]
    split
    · have := ih (n / 128)
      simp
      omega
    · simp






def byteAt (s : ByteArray) (i : Nat) : Nat := if h : i < s.size then (s[i]'h).toNat else 0

theorem byteAt_eq {s : ByteArray} {i : Nat} (h : i < s.size) : byteAt s i = (s[i]'h).toNat := by simp [byteAt, h]

theorem byteAt_lt (s : ByteArray) (i : Nat) : byteAt s i < 256 := by
  unfold byteAt
  split
  · exact UInt8.toNat_lt _
  · omega

/-- What a number's bytes from place i on tell, n told already, with the weight sc; f: how many bytes may come. -/
def readV (s : ByteArray) (a : Nat) : Nat → Nat → Nat → Nat → Option (Nat × Nat)
  | 0, _, _, _ => none
  | f + 1, i, n, sc =>
    if i < s.size then
      if byteAt s i < 128 then
        if 1000000000 < n + byteAt s i % 128 * sc then none
        else if varB 4 (n + byteAt s i % 128 * sc) = (s.extract a (i + 1)).toList then some (n + byteAt s i % 128 * sc, i + 1) else none
      else readV s a f (i + 1) (n + byteAt s i % 128 * sc) (sc * 128)
    else none

def rvOut : Option (Nat × Nat) → Value
  | none => .tuple #[.int .i64 0, .int .i64 0, .bool false]
  | some p => .tuple #[.int .i64 (p.1 : Int), .int .i64 (p.2 : Int), .bool true]

theorem readV_end (s : ByteArray) (a f i n sc : Nat) (h : ¬ i < s.size) : readV s a f i n sc = none := by
  cases f with
  | zero => rfl
  | succ f => simp [readV, h]

theorem readV_more {s : ByteArray} {a f i n sc : Nat} (h : i < s.size) (hb : ¬ byteAt s i < 128) :
    readV s a (f + 1) i n sc = readV s a f (i + 1) (n + byteAt s i % 128 * sc) (sc * 128) := by
  simp only [readV]; rw [if_pos h, if_neg hb]

theorem readV_great {s : ByteArray} {a f i n sc : Nat} (h : i < s.size) (hb : byteAt s i < 128) (hg : 1000000000 < n + byteAt s i % 128 * sc) :
    readV s a (f + 1) i n sc = none := by
  simp only [readV]; rw [if_pos h, if_pos hb, if_pos hg]

theorem readV_yes {s : ByteArray} {a f i n sc : Nat} (h : i < s.size) (hb : byteAt s i < 128) (hg : ¬ 1000000000 < n + byteAt s i % 128 * sc)
    (he : varB 4 (n + byteAt s i % 128 * sc) = (s.extract a (i + 1)).toList) : readV s a (f + 1) i n sc = some (n + byteAt s i % 128 * sc, i + 1) := by
  simp only [readV]; rw [if_pos h, if_pos hb, if_neg hg, if_pos he]

theorem readV_other {s : ByteArray} {a f i n sc : Nat} (h : i < s.size) (hb : byteAt s i < 128) (hg : ¬ 1000000000 < n + byteAt s i % 128 * sc)
    (he : varB 4 (n + byteAt s i % 128 * sc) ≠ (s.extract a (i + 1)).toList) : readV s a (f + 1) i n sc = none := by
  simp only [readV]; rw [if_pos h, if_pos hb, if_neg hg, if_neg he]

theorem weight_le {sc f : Nat} (h : sc * 128 ^ (f + 1) = 34359738368) : sc ≤ 268435456 := by
  rw [Nat.pow_succ, ← Nat.mul_assoc] at h
  have h1 : sc * 128 ^ f = 268435456 := by omega
  have h2 : 0 < 128 ^ f := Nat.pow_pos (by omega)
  have h3 : sc * 1 ≤ sc * 128 ^ f := Nat.mul_le_mul_left sc h2
  omega

theorem weight_step {sc f : Nat} (h : sc * 128 ^ (f + 1) = 34359738368) : sc * 128 * 128 ^ f = 34359738368 := by
  rw [Nat.pow_succ] at h; rw [Nat.mul_assoc, Nat.mul_comm 128]; exact h

theorem readV_bound {s : ByteArray} {a : Nat} : ∀ {f i n sc x e : Nat}, readV s a f i n sc = some (x, e) → x ≤ 1000000000 ∧ e ≤ s.size := by
  intro f
  induction f with
  | zero => intro i n sc x e h; simp [readV] at h
  | succ f ih =>
    intro i n sc x e h
    simp only [readV] at h
    split at h
    · split at h
      · split at h
        · simp at h
        · split at h
          · simp at h
            obtain ⟨rfl, rfl⟩ := h
            exact ⟨by omega, by omega⟩
          · simp at h
      · exact ih h
    · simp at h

/-- ReadVar's answer at any place. -/
def readA (s : ByteArray) (a : Int) : Option (Nat × Nat) := if 0 ≤ a ∧ a ≤ (s.size : Int) then readV s a.toNat 5 a.toNat 0 1 else none

theorem readA_bound {s : ByteArray} {a : Int} {x e : Nat} (h : readA s a = some (x, e)) : x ≤ 1000000000 ∧ e ≤ s.size := by
  unfold readA at h
  split at h
  · exact readV_bound h
  · simp at h

/-- ReadShort's answer, of what ReadVar answered. -/
def rsOut (s : ByteArray) : Option (Nat × Nat) → Value
  | none => .tuple #[.string ⟨#[]⟩, .int .i64 0, .bool false]
  | some p => if p.1 ≤ 8000 ∧ p.1 + p.2 ≤ s.size then .tuple #[.string (s.extract p.2 (p.2 + p.1)), .int .i64 ((p.2 : Int) + (p.1 : Int)), .bool true] else .tuple #[.string ⟨#[]⟩, .int .i64 0, .bool false]

end Go.Proofs.Ytldbanpfhlmjmaa

/-
  The contracts of the writers of numbers: spec.l01Var, spec.l01In, spec.VarText and impl.VarText, for every int (l01Var: for 0 .. 10^9).
-/
namespace Go.Proofs.Ytldbanpfhlmjmaa
open Go.RowKit

theorem info5 : (Try.prog.info? 5).map (fun i => (i.zero, i.size, i.bytes)) = some (some (.int .u8 0), 1, 1) := by kernel_rfl

set_option maxRecDepth 100000 in
set_option maxHeartbeats 1000000 in
theorem l01Var_any (n : Nat) (hn : n ≤ 1000000000) (w : World) :
    Calls Try.prog 19 #[.int .i64 n] w fun e w' => e = .returned (.string ⟨(varB 4 n).toArray⟩) ∧ Below w.heap.size w w' := by
  obtain ⟨i0, hi, hz0, hz1, hz2⟩ := info_parts info5
  go_enter Try.func19, Try.ntmps19
  go_wp2_with fail
  go_loopw [0, 3] (fun a out wr => ∃ (m f : Nat) (pre : List UInt8), a = .int .i64 m ∧ m < 128 ^ (f + 1) ∧ pre.length + f = 4 ∧ pre ++ varB f m = varB 4 n ∧ wr.ownsRow w.heap.size 5 1 out pre.length (bytesV pre) ∧ Below w.heap.size w wr)
    (fun a _ _ => (intOf a).toNat)
  case atStart =>
    refine ⟨n, 4, [], rfl, by omega, rfl, rfl, ?_, (Below.refl _ _).alloc (Nat.le_refl _) _⟩
    exact World.ownsRow_made w #[] 0 (Nat.le_refl _) (Nat.zero_le _) rfl
  case round =>
    obtain ⟨m, f, pre, rfl, hm, hl, hv, hown, hb⟩ := hrel
    have hml : m < 34359738368 := Nat.lt_of_lt_of_le hm (by
      have : f ≤ 4 := by omega
      exact Nat.le_trans (Nat.pow_le_pow_right (by omega) (show f + 1 ≤ 5 by omega)) (by decide))
    have hbs := hb.size
    by_cases hlt : 127 < m
    · go_wp2_with (at_builtin; refine wpList_append_own _ rfl _ _ 67 rfl w.heap.size 5 i0 (.int .u8 0) 1 1 Try.underlying67 hi hz0 hz1 hz2 rfl (by decide) _ _ _ rfl (hown.alloc _) ⟨wr.heap.size, 0, none⟩ 1 1 [.int .u8 ((m : Int) % 128 + 128)] rfl rfl (cell_one_new _ _ _) (one_byte _) ?c3 ?c4 ?c5 ?_)
      case c3 => unfold maxLen; omega
      case c4 => omega
      case c5 => simp; omega
      intro v' w1 hown' hgrow _
      have hb1 := below_append hb (Nat.le_refl _) hown hgrow
      have hown1 := own_snoc (c := UInt8.ofNat (m % 128 + 128)) (by rw [toNat_ofNat_small _ (by omega)]; omega) hown'
      clear hown' hgrow hown hb
      go_wp2
      go_roundw
      case rel =>
        obtain ⟨f', rfl⟩ : ∃ f', f = f' + 1 := ⟨f - 1, by
          rcases f with _ | f
          · simp at hm; omega
          · rfl⟩
        refine ⟨m / 128, f', pre ++ [UInt8.ofNat (m % 128 + 128)], by go_num, ?_, by simp; omega, ?_, hown1, hb1⟩
        · rw [Nat.div_lt_iff_lt_mul (by omega)]; rw [Nat.pow_succ] at hm; exact hm
        · rw [← hv, varB_more f' m hlt]; simp
      case measure => simp [intOf]; omega
    · go_wp2_with (at_builtin; refine wpList_append_own _ rfl _ _ 67 rfl w.heap.size 5 i0 (.int .u8 0) 1 1 Try.underlying67 hi hz0 hz1 hz2 rfl (by decide) _ _ _ rfl (hown.alloc _) ⟨wr.heap.size, 0, none⟩ 1 1 [.int .u8 (m : Int)] rfl rfl (cell_one_new _ _ _) (one_byte _) ?d3 ?d4 ?d5 ?_)
      case d3 => unfold maxLen; omega
      case d4 => omega
      case d5 => simp; omega
      intro v' w1 hown' hgrow _
      have hb1 := below_append hb (Nat.le_refl _) hown hgrow
      have hown1 := own_snoc (c := UInt8.ofNat m) (by rw [toNat_ofNat_small _ (by omega)]) hown'
      have hcv := convert_own w1 67 9 5 w.heap.size v' _ Try.underlying67 Try.underlying5 Try.underlying9 hown1
      rw [← varB_last f m (by omega), hv] at hcv
      clear hown' hgrow hown hb hown1
      go_wp2
      go_ret
      exact ⟨rfl, hb1⟩

theorem l01In_any (x a b : Int) (w : World) : Calls Try.prog 56 #[.int .i64 x, .int .i64 a, .int .i64 b] w fun e w' => e = .returned (.bool (decide (a ≤ x) && decide (x ≤ b))) ∧ w' = w := by
  by_cases h1 : a ≤ x
  · by_cases h2 : x ≤ b
    · go_enter Try.func56, Try.ntmps56
      go_wp2
      go_ret
      exact ⟨by simp [h1, h2], rfl⟩
    · go_enter Try.func56, Try.ntmps56
      go_wp2
      go_ret
      exact ⟨by simp; omega, rfl⟩
  · go_enter Try.func56, Try.ntmps56
    go_wp2
    go_ret
    exact ⟨by simp; omega, rfl⟩

theorem implVar_no (n : Int) (hn : n < 0 ∨ 1000000000 < n) (w : World) :
    Calls Try.prog 86 #[.int .i64 n] w fun e w' => e = .returned (.tuple #[.string ⟨#[]⟩, .bool false]) ∧ w' = w := by
  by_cases h : n < 0
  · go_enter Try.func86, Try.ntmps86
    go_wp2
    go_ret2
    exact ⟨rfl, rfl⟩
  · have h2 : 1000000000 < n := by omega
    go_enter Try.func86, Try.ntmps86
    go_wp2
    go_ret2
    exact ⟨rfl, rfl⟩

set_option maxRecDepth 100000 in
set_option maxHeartbeats 1000000 in
theorem implVar_yes (n : Nat) (hn : n ≤ 1000000000) (w : World) :
    Calls Try.prog 86 #[.int .i64 n] w fun e w' => e = .returned (.tuple #[.string ⟨(varB 4 n).toArray⟩, .bool true]) ∧ Below w.heap.size w w' := by
  obtain ⟨i0, hi, hz0, hz1, hz2⟩ := info_parts info5
  have hmk : ∀ w : World, (Instr.makeSlice 67 (.int .i64 0) (.int .i64 5)).run Try.prog w = .ok (.slice (some ⟨w.heap.size, 0, none⟩) 0 5) (w.alloc (.cells #[.int .u8 0, .int .u8 0, .int .u8 0, .int .u8 0, .int .u8 0] 5)) := fun _ => by kernel_rfl
  go_enter Try.func86, Try.ntmps86
  go_wp2_with fail
  go_loopw [0, 4] (fun a out wr => ∃ (m f : Nat) (pre : List UInt8), a = .int .i64 m ∧ m < 128 ^ (f + 1) ∧ pre.length + f = 4 ∧ pre ++ varB f m = varB 4 n ∧ wr.ownsRow w.heap.size 5 1 out pre.length (bytesV pre) ∧ Below w.heap.size w wr)
    (fun a _ _ => (intOf a).toNat)
  case atStart =>
    refine ⟨n, 4, [], rfl, by omega, rfl, rfl, ?_, (Below.refl _ _).alloc (Nat.le_refl _) _⟩
    exact World.ownsRow_made w _ 5 (Nat.le_refl _) (by decide) rfl
  case round =>
    obtain ⟨m, f, pre, rfl, hm, hl, hv, hown, hb⟩ := hrel
    have hml : m < 34359738368 := Nat.lt_of_lt_of_le hm (by
      have : f ≤ 4 := by omega
      exact Nat.le_trans (Nat.pow_le_pow_right (by omega) (show f + 1 ≤ 5 by omega)) (by decide))
    have hbs := hb.size
    by_cases hlt : 127 < m
    · go_wp2_with (at_builtin; refine wpList_append_own _ rfl _ _ 67 rfl w.heap.size 5 i0 (.int .u8 0) 1 1 Try.underlying67 hi hz0 hz1 hz2 rfl (by decide) _ _ _ rfl (hown.alloc _) ⟨wr.heap.size, 0, none⟩ 1 1 [.int .u8 ((m : Int) % 128 + 128)] rfl rfl (cell_one_new _ _ _) (one_byte _) ?c3 ?c4 ?c5 ?_)
      case c3 => unfold maxLen; omega
      case c4 => omega
      case c5 => simp; omega
      intro v' w1 hown' hgrow _
      have hb1 := below_append hb (Nat.le_refl _) hown hgrow
      have hown1 := own_snoc (c := UInt8.ofNat (m % 128 + 128)) (by rw [toNat_ofNat_small _ (by omega)]; omega) hown'
      clear hown' hgrow hown hb
      go_wp2
      go_roundw
      case rel =>
        obtain ⟨f', rfl⟩ : ∃ f', f = f' + 1 := ⟨f - 1, by
          rcases f with _ | f
          · simp at hm; omega
          · rfl⟩
        refine ⟨m / 128, f', pre ++ [UInt8.ofNat (m % 128 + 128)], by go_num, ?_, by simp; omega, ?_, hown1, hb1⟩
        · rw [Nat.div_lt_iff_lt_mul (by omega)]; rw [Nat.pow_succ] at hm; exact hm
        · rw [← hv, varB_more f' m hlt]; simp
      case measure => simp [intOf]; omega
    · go_wp2_with (at_builtin; refine wpList_append_own _ rfl _ _ 67 rfl w.heap.size 5 i0 (.int .u8 0) 1 1 Try.underlying67 hi hz0 hz1 hz2 rfl (by decide) _ _ _ rfl (hown.alloc _) ⟨wr.heap.size, 0, none⟩ 1 1 [.int .u8 (m : Int)] rfl rfl (cell_one_new _ _ _) (one_byte _) ?d3 ?d4 ?d5 ?_)
      case d3 => unfold maxLen; omega
      case d4 => omega
      case d5 => simp; omega
      intro v' w1 hown' hgrow _
      have hb1 := below_append hb (Nat.le_refl _) hown hgrow
      have hown1 := own_snoc (c := UInt8.ofNat m) (by rw [toNat_ofNat_small _ (by omega)]) hown'
      have hcv := convert_own w1 67 9 5 w.heap.size v' _ Try.underlying67 Try.underlying5 Try.underlying9 hown1
      rw [← varB_last f m (by omega), hv] at hcv
      clear hown' hgrow hown hb hown1
      go_wp2
      go_ret2
      exact ⟨rfl, hb1⟩
end Go.Proofs.Ytldbanpfhlmjmaa

/-
  The bytes of a number.
-/
namespace Go.Proofs.Ytldbanpfhlmjmaa
namespace Gr
open Go.RowKit

/-- The bytes of a number. -/
def vB (n : Int) : ByteArray := ⟨(varB 4 n.toNat).toArray⟩

theorem varB_length : ∀ (f n : Nat), (varB f n).length ≤ f + 1
  | 0, _ => by simp [varB]
  | f + 1, n => by
    simp only [varB]
    split
    · have := varB_length f (n / 128)
      rw [List.length_cons]
      omega
    · simp

theorem vB_size (n : Int) : (vB n).size ≤ 5 := by
  show (varB 4 n.toNat).toArray.size ≤ 5
  rw [List.size_toArray]
  exact varB_length 4 _

end Gr
end Go.Proofs.Ytldbanpfhlmjmaa

/-
  A strings.Builder in the field of a writer that a call has made: the contracts of copyCheck, WriteString and String there.
-/
namespace Go.Proofs.Ytldbanpfhlmjmaa
namespace Gr
open Go.RowKit

/-- A writer in block b that holds a text. -/
def Wri (w : World) (B b : Nat) (t : ByteArray) : Prop := Lib.IsBuilder 71 5 B b (Lib.strCells t) w

theorem lies_writer : liesAt Try.prog Try.prog.depth 71 (2 / Try.prog.cellsOf 71) 0 69 1 = true := by kernel_rfl

theorem size_builder : (Try.prog.info? 69).map (·.size) = some 2 := by kernel_rfl

set_option maxHeartbeats 1000000 in
set_option maxRecDepth 100000 in
theorem copyCheck_used (b : Nat) (w : World) (h0 : w.cell? ⟨b, 0, none⟩ = some (.pointer (some ⟨b, 0, none⟩))) :
    Calls Try.prog 85 #[.pointer (some ⟨b, 0, none⟩)] w fun e w' => e = .returned (.tuple #[]) ∧ w' = w := by
  obtain ⟨j, hj, _⟩ := Option.map_eq_some_iff.1 size_builder
  go_enter Try.func85, Try.ntmps85
  go_wp2
  rw [Lib.run_neq_ptr_same w _ Try.underlying66 hj]
  go_wp2
  go_end0
  exact ⟨rfl, rfl⟩

set_option maxHeartbeats 1000000 in
set_option maxRecDepth 100000 in
-- BARE
theorem copyCheck_fresh (b : Nat) (w : World) (h0 : w.cell? ⟨b, 0, none⟩ = some (.pointer none)) (hsh : w.shape? b = some (71, 2)) (hfz : w.frozen? ⟨b, 0, none⟩ = false) :
    Calls Try.prog 85 #[.pointer (some ⟨b, 0, none⟩)] w fun e w' => e = .returned (.tuple #[]) ∧ w' = w.setCell ⟨b, 0, none⟩ (.pointer (some ⟨b, 0, none⟩)) := by
  obtain ⟨j, hj, hjs⟩ := Option.map_eq_some_iff.1 size_builder
  go_enter Try.func85, Try.ntmps85
  go_wp2
  rw [Lib.run_to_unsafe w ⟨b, 0, none⟩ Try.underlying66 Try.underlying141 hj (by rw [hjs]; decide) hsh (Nat.zero_lt_succ 1)]
  simp only [Result.andThen]
  rw [Oper.upon_value]
  go_wp2
  rw [run_callFunc_extern Try.func93 (by kernel_rfl) (by kernel_rfl) (by kernel_rfl) (e := Extern.AbiNoEscape.same) (by kernel_rfl)]
  rw [Lib.run_noEscape]
  simp only [Result.andThen]
  rw [Oper.upon_value]
  go_wp2
  rw [Lib.run_from_unsafe w ⟨b, 0, none⟩ Try.underlying141 Try.underlying66 hj hsh lies_writer]
  simp only [Result.andThen]
  rw [Oper.upon_value]
  go_wp2
  go_end0
  exact ⟨rfl, rfl⟩

theorem copyCheck_any (B b : Nat) (bs : List Value) (w : World) (h : Lib.IsBuilder 71 5 B b bs w) :
    Calls Try.prog 85 #[.pointer (some ⟨b, 0, none⟩)] w fun e w' => e = .returned (.tuple #[]) ∧ Lib.BuilderAt 71 5 B b (.pointer (some ⟨b, 0, none⟩)) bs w' ∧ Below B w w' ∧ Lib.OthersKept 5 (some b) w w' := by
  rcases h with h | h
  · refine (copyCheck_fresh b w h.cell0 h.shape h.frozen0).mono ?_
    rintro e w' ⟨rfl, rfl⟩
    exact ⟨rfl, h.used _, (Below.refl B w).setCell (p := ⟨b, 0, none⟩) h.1 _, (Lib.OthersKept.refl _ _ _).setCell ⟨b, 0, none⟩ rfl _⟩
  · refine (copyCheck_used b w h.cell0).mono ?_
    rintro e w' ⟨rfl, rfl⟩
    exact ⟨rfl, h, Below.refl B _, Lib.OthersKept.refl _ _ _⟩

theorem row_kind {w : World} {B : Nat} {e : TypeId} {v : Value} {n : Nat} {xs : List Value} (h : w.ownsRow B e 1 v n xs) : ∀ g, v.ownBlock = some g → ∃ c fz, w.heap[g]? = some (.cells c e fz) := by
  intro g hg
  rcases h.2 with ⟨rfl, _⟩ | ⟨g', cap, cur, rfl, _, hgg, _⟩
  · simp [Value.ownBlock] at hg
  · simp [Value.ownBlock] at hg
    subst hg
    exact ⟨cur, _, hgg⟩

set_option maxHeartbeats 2000000 in
set_option maxRecDepth 100000 in
theorem writeString_any (B b : Nat) (t s : ByteArray) (w : World) (h : Wri w B b t) (hlen : t.size + s.size ≤ 140737488355328) (hBw : B ≤ w.heap.size) :
    Calls Try.prog 73 #[.pointer (some ⟨b, 0, none⟩), .string s] w fun e w' => e = .returned (.tuple #[.int .i64 s.size, .nilIface]) ∧ Wri w' B b (t ++ s) ∧ Below B w w' ∧ Lib.OthersKept 5 (some b) w w' := by
  obtain ⟨i0, hi, hz0, hz1, hz2⟩ := info_parts info5
  unfold Wri at h
  have hts : (Lib.strCells t).length = t.size := Lib.strCells_length t
  have happ : Lib.strCells (t ++ s) = Lib.strCells t ++ Lib.strCells s := by simp [Lib.strCells]
  generalize Lib.strCells t = bs at h hts happ
  go_enter Try.func73, Try.ntmps73
  go_wp2_with (go_at_call 85; refine (copyCheck_any B b bs _ h).mono ?_)
  rintro e w1 ⟨rfl, h1, hb1, ho1⟩
  obtain ⟨hB, v, hbk, hown, hne⟩ := h1
  have c0 : w1.cell? ⟨b, 0, none⟩ = some (.pointer (some ⟨b, 0, none⟩)) := by rw [Lib.cell_of_heap hbk]; rfl
  have c1 : w1.cell? ⟨b, 1, none⟩ = some v := by rw [Lib.cell_of_heap hbk]; rfl
  go_wp2_with (at_builtin; refine Lib.wpList_append_own_string _ rfl _ _ 67 9 rfl B 5 i0 Try.underlying67 Try.underlying9 hi hz0 hz1 hz2 _ _ _ rfl hown s rfl ?c3 ?c4 ?c5 ?_)
  case c3 => unfold maxLen; omega
  case c4 => omega
  case c5 => have := hb1.size; omega
  intro v' w2 hown' hgrow _
  have hlt : b < w1.heap.size := by
    rcases Nat.lt_or_ge b w1.heap.size with h' | h'
    · exact h'
    · simp [Array.getElem?_eq_none h'] at hbk
  have hb2 : w2.heap[b]? = some (.cells #[.pointer (some ⟨b, 0, none⟩), v] 71 (0, 0)) := by
    rw [hgrow.block b hlt (fun e => hne e.symm)]
    exact hbk
  have d0 : w2.cell? ⟨b, 0, none⟩ = some (.pointer (some ⟨b, 0, none⟩)) := by rw [Lib.cell_of_heap hb2]; rfl
  have d1 : w2.cell? ⟨b, 1, none⟩ = some v := by rw [Lib.cell_of_heap hb2]; rfl
  have f1 : w2.frozen? ⟨b, 1, none⟩ = false := Lib.frozen_of_heap hb2 1
  have HO := hide (ho1.grown hgrow (row_kind hown))
  have HB := hide (hb1.grown hgrow (by have := hb1.size; omega) (fun k hk => (hown.lt k hk).1))
  have HP := hide (fun q => Lib.BuilderAt.put (T := 71) (e := 5) (v' := q) hB hb2 (bs' := bs ++ Lib.strCells s))
  have HW := hide hown'
  obtain ⟨ao, n', cap, rfl⟩ : ∃ ao n' cap, v' = .slice ao n' cap := by
    rcases hown'.2 with ⟨hv, _⟩ | ⟨g, cap, cur, hv, _⟩
    · exact ⟨_, _, _, hv⟩
    · exact ⟨_, _, _, hv⟩
  clear hown' hgrow
  go_wp2
  go_ret2
  refine ⟨rfl, .inr ?_, ?_, ?_⟩
  · rw [happ]
    exact unhide HP _ (by have := unhide HW; rw [List.length_append, hts, Lib.strCells_length]; exact this) (by decide)
  · exact (unhide HB).setCell (p := ⟨b, 1, none⟩) hB _
  · exact (unhide HO).setCell ⟨b, 1, none⟩ rfl _

set_option maxHeartbeats 1000000 in
set_option maxRecDepth 100000 in
theorem string_any (B b : Nat) (t : ByteArray) (w : World) (h : Wri w B b t) (h0 : t.size ≠ 0) :
    Calls Try.prog 27 #[.pointer (some ⟨b, 0, none⟩)] w fun e w' => e = .returned (.string t) ∧ Below B w w' := by
  obtain ⟨l, rfl⟩ : ∃ l : List UInt8, t = ⟨l.toArray⟩ := ⟨t.data.toList, by simp⟩
  have h0 : l ≠ [] := by rintro rfl; exact h0 rfl
  unfold Wri at h
  rw [Lib.strCells_eq] at h
  obtain ⟨p, hB, v, hbk, hown, hne⟩ : ∃ p, Lib.BuilderAt 71 5 B b p (Lib.byteCells l) w := by
    rcases h with h | h
    · exact ⟨_, h⟩
    · exact ⟨_, h⟩
  have hl0 : l.length ≠ 0 := by simpa using h0
  rw [Lib.byteCells_length] at hown
  obtain ⟨g, cap, cur, rfl, hbg, hg, hnc, hcm, hcs, htake⟩ : ∃ g cap cur, v = .slice (some ⟨g, 0, none⟩) l.length cap ∧ B ≤ g ∧ w.heap[g]? = some (.cells cur 5 (0, 0)) ∧ l.length ≤ cap ∧ cap ≤ maxLen ∧ cur.size = cap * 1 ∧ cur.toList.take (l.length * 1) = Lib.byteCells l := by
    rcases hown.2 with ⟨_, hz⟩ | ⟨g, cap, cur, hv, r⟩
    · exact absurd hz hl0
    · exact ⟨g, cap, cur, hv, r⟩
  have c1 : w.drew.cell? ⟨b, 1, none⟩ = some (.slice (some ⟨g, 0, none⟩) l.length cap) := by
    have : w.drew.heap[b]? = some (.cells #[p, .slice (some ⟨g, 0, none⟩) l.length cap] 71 (0, 0)) := hbk
    rw [Lib.cell_of_heap this]; rfl
  have hSD : (Builtin.unsafeSliceData_ #[67] 94 #[.slice (some ⟨g, 0, none⟩) l.length cap]).run Try.prog w.drew = .ok (.pointer (some ⟨g, 0, none⟩)) w.drew :=
    Lib.run_unsafeSliceData_row _ _ _ _ _ _ (by omega)
  have hUS : (Builtin.unsafeString_ #[94, 3] 9 #[.pointer (some ⟨g, 0, none⟩), .int .i64 l.length]).run Try.prog w.drew = .ok (.string ⟨l.toArray⟩) (w.drew.freeze ⟨g, 0, none⟩ l.length) := by
    refine Lib.run_unsafeString_row w.drew 94 3 9 5 Try.underlying94 (by kernel_rfl) g cur.size (by have hg' : w.drew.heap[g]? = some (.cells cur 5 (0, 0)) := hg; simp [World.shape?, hg']) l h0 (by omega) (by unfold maxLen at hcm; omega) ?_
    intro j x hx
    have := hown.cells (g := g) rfl j (.int .u8 x.toNat) (by simp [Lib.byteCells, hx])
    exact this
  go_enter Try.func27, Try.ntmps27
  go_wp2
  go_region
  all_goals (go_wp2; go_ret; exact ⟨rfl, Lib.below_freeze (Below.drew (Below.refl B w)) (p := ⟨g, 0, none⟩) hbg _⟩)

end Gr
end Go.Proofs.Ytldbanpfhlmjmaa
