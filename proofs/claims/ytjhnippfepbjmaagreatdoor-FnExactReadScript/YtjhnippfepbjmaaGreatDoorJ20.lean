/-
  Texts of this claim, one behind the other: DevFlush.
-/
import Derived.Test.YtjhnippfepbjmaaGreatDoorJ6
import Derived.Test.YtjhnippfepbjmaaGreatDoorJ19
import Derived.Deep.AppendLies
import Derived.Laws.ResultCell
import Derived.Deep.RegionHeld3

/-
  The contract of spec.FlushDevice.
-/
namespace Go.Proofs.YtjhnippfepbjmaaGreatDoor
open Go.RowKit

/-- Some sectors with some puts done, in order. -/
def flushL (L : List ByteArray) (Q : List (Int × ByteArray)) : List ByteArray := Q.foldl (fun L q => L.set q.1.toNat q.2) L

theorem flushL_length (L : List ByteArray) (Q : List (Int × ByteArray)) : (flushL L Q).length = L.length := by
  unfold flushL
  induction Q generalizing L with
  | nil => rfl
  | cons q Q ih => simp only [List.foldl_cons]; rw [ih]; simp

theorem flushL_snoc (L : List ByteArray) (Q : List (Int × ByteArray)) (j : Nat) (h : j < Q.length) : flushL L (Q.take (j + 1)) = (flushL L (Q.take j)).set Q[j].1.toNat Q[j].2 := by
  unfold flushL
  rw [List.take_succ_eq_append_getElem h, List.foldl_append]
  rfl

theorem strs_news {w : World} {b off n B : Nat} {L : List ByteArray} (h : StrsAt w (some ⟨b, off, none⟩) n B L) : ∀ j u, (strsV L)[j]? = some u → w.cell? ((⟨b, off, none⟩ : Addr).add j) = some u := fun j u hu => by
  have hj : j < L.length := by
    rcases Nat.lt_or_ge j L.length with h1 | h1
    · exact h1
    · rw [List.getElem?_eq_none (by simp [strsV]; exact h1)] at hu; cases hu
  obtain ⟨b', off', e, _, hc⟩ := h.2 j hj
  simp at e
  obtain ⟨rfl, rfl⟩ := e
  rw [Addr.add_lit, hc, ← hu]
  simp [strsV, hj]

theorem strs_one (L : List ByteArray) : ∀ u ∈ strsV L, u.oneCell' = true := fun u hu => by
  simp [strsV] at hu
  obtain ⟨s, _, rfl⟩ := hu
  rfl

theorem StrsAt.some_of {w : World} {a : Option Addr} {n B : Nat} {L : List ByteArray} (h : StrsAt w a n B L) (hn : 1 ≤ n) : ∃ b off, a = some ⟨b, off, none⟩ ∧ b < B := by
  obtain ⟨b, off, e, hb, _⟩ := h.2 0 (by rw [h.1]; omega)
  exact ⟨b, off, e, hb⟩

theorem grown_box {w w' : World} {row : Option Nat} {g : Nat} {a b : Value} (h : Box w g a b) (hg : w.grownBy w' row) (hr : row ≠ some g) : Box w' g a b := by
  unfold Box; rw [hg.block g h.lt (fun e => hr e.symm)]; exact h

theorem results_box {fn : Func} {p u : Tmp} (h : fn.results = #[.cell p 36, .tmp u]) (tmps : Array Value) (w : World) (g : Nat) (a b : Value) (hp : tmps.getD p undef = .pointer (some ⟨g, 0, none⟩)) (hg : Box w g a b) :
    (results fn tmps).run Tryz.prog w = .ok (.tuple #[.agg #[a, b], tmps.getD u undef]) w := by
  have hr := run_loadVar_row (P := Tryz.prog) w g 36 36 #[a, b] (0, 0) _ hg Tryz.underlying36 rfl (by kernel_rfl)
  rw [results_cell_tmp h, hp]
  simp [asAddr, hr, Result.andThen]

theorem Box.two {w : World} {g : Nat} {a b : Value} (h : Box w g a b) (x y : Value) : Box ((w.setCell ⟨g, 0, none⟩ x).setCell ⟨g, 1, none⟩ y) g x y :=
  two_one (two_zero h x) y

theorem Box.froz {w : World} {g : Nat} {a b : Value} (h : Box w g a b) (j : Nat) : w.frozen? ⟨g, j, none⟩ = false := (cells_of_two h).2.2 j

/-- What FlushDevice answers. -/
def flushA (L : List ByteArray) (Q : List (Int × ByteArray)) : List ByteArray := if devOk L Q = true then flushL L Q else []

end Go.Proofs.YtjhnippfepbjmaaGreatDoor
