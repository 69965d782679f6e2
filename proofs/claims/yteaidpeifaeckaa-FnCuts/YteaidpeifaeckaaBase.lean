/-
  Plain lemmas on rows of bytes that the other texts of this seat lean on. No condition.
-/
import Derived.WalkKit
import Derived.ProofKit
import Derived.OpenShut
import Derived.WalkSpells
import Derived.WalkSmall
import Derived.WalkLawsBesides
import Derived.Deep.QuietTactic
import Derived.BigQuiet
import Derived.Laws.BitsAllLaws
import Derived.Laws.BytesArg
import Derived.Laws.IdiomStrings
namespace Go.Proofs.Yteaidpeifaeckaa
open Go.RowKit

theorem hide {p : Prop} (h : p) : Hid p := h
theorem unhide {p : Prop} (h : Hid p) : p := h

def bytesV (l : List UInt8) : List Value := l.map fun b => Value.int .u8 (b.toNat : Int)

theorem bytesV_snoc (l : List UInt8) (c : UInt8) : bytesV l ++ [Value.int .u8 (c.toNat : Int)] = bytesV (l ++ [c]) := by
  simp [bytesV]

theorem bytesV_length (l : List UInt8) : (bytesV l).length = l.length := by simp [bytesV]

theorem toNat_ofNat_small (n : Nat) (h : n < 256) : (UInt8.ofNat n).toNat = n := by
  simp [UInt8.toNat_ofNat']; omega

theorem convert_own {P : Program} (w : World) (src dst e : TypeId) (base : Nat) (v : Value) (l : List UInt8) (hs : P.underlying src = some (.slice e)) (he : P.underlying e = some (.int .u8))
    (hd : P.underlying dst = some .string) (hown : w.ownsRow base e 1 v l.length (bytesV l)) : (convert src dst v).run P w = .ok (.string ⟨l.toArray⟩) w := by
  have hown0 := hown
  rcases hown.2 with ⟨rfl, h0⟩ | ⟨g, cap, cur, rfl, hg, hh, hnc, hcp, hcs, htake⟩
  · obtain rfl : l = [] := List.length_eq_zero_iff.1 h0
    exact run_convert_bytes_nil w src e hs he 0 0 dst hd
  · refine run_convert_bytes_back w src dst e ⟨g, 0, none⟩ cap l hs he hd fun j hj => ?_
    rw [Addr.add_lit, Nat.zero_add, hown0.cellAt j (by omega)]
    simp [bytesV, hj]

theorem own_snoc {w1 : World} {B e : Nat} {v' : Value} {pre : List UInt8} {c : UInt8} {x : Int} (hx : x = (c.toNat : Int))
    (h : w1.ownsRow B e 1 v' (pre.length + 1) (bytesV pre ++ [.int .u8 x])) : w1.ownsRow B e 1 v' (pre ++ [c]).length (bytesV (pre ++ [c])) := by
  rw [hx, bytesV_snoc] at h
  simpa using h

theorem one_byte (x : Int) : ∀ u, u ∈ [Value.int .u8 x] → u.oneCell' = true := by
  intro u hu; simp at hu; subst hu; rfl

theorem below_append {B : Nat} {w wr w1 : World} {o : Obj} {e size n : Nat} {v : Value} {xs : List Value} (hb : Below B w wr) (hB : B ≤ w.heap.size) (hown : wr.ownsRow B e size v n xs)
    (hg : (wr.alloc o).grownBy w1 v.ownBlock) : Below B w w1 := by
  have hs := hb.size
  exact (hb.alloc (by omega) o).grown hg (by simp; omega) (fun k hk => (hown.lt k hk).1)

theorem two_bytes (x y : Int) : ∀ u, u ∈ [Value.int .u8 x, Value.int .u8 y] → u.oneCell' = true := by
  intro u hu; simp at hu; rcases hu with rfl | rfl <;> rfl

theorem own_two {w1 : World} {B e : Nat} {v' : Value} {pre : List UInt8} {c d : UInt8} {x y : Int} (hx : x = (c.toNat : Int)) (hy : y = (d.toNat : Int))
    (h : w1.ownsRow B e 1 v' (pre.length + 2) (bytesV pre ++ [.int .u8 x, .int .u8 y])) : w1.ownsRow B e 1 v' (pre ++ [c, d]).length (bytesV (pre ++ [c, d])) := by
  subst hx hy
  simpa [bytesV] using h

theorem below_append_drew {B : Nat} {w wr w1 : World} {o : Obj} {e size n : Nat} {v : Value} {xs : List Value} (hb : Below B w wr) (hB : B ≤ w.heap.size) (hown : wr.ownsRow B e size v n xs)
    (hg : (wr.alloc o).drew.grownBy w1 v.ownBlock) : Below B w w1 := by
  have hs := hb.size
  exact ((hb.alloc (by omega) o).drew).grown hg (by simp; omega) (fun k hk => (hown.lt k hk).1)
end Go.Proofs.Yteaidpeifaeckaa
