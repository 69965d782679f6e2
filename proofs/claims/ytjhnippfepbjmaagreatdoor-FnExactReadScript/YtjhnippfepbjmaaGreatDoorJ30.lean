/-
  Texts of this claim, one behind the other: StMath.
-/
import Derived.Test.YtjhnippfepbjmaaGreatDoorJ6
import Derived.Test.YtjhnippfepbjmaaGreatDoorJ20
import Derived.Test.YtjhnippfepbjmaaGreatDoorJ23
import Derived.Test.YtjhnippfepbjmaaGreatDoorJ28
import Derived.Test.YtjhnippfepbjmaaGreatDoorJ29

/-
  A new store's device: the sectors with the first root; that it is right, and what LastRoot tells of it.
-/
namespace Go.Proofs.YtjhnippfepbjmaaGreatDoor
open Go.RowKit Rt

/-- The text of a new store's root. -/
def root0 : ByteArray := sealB (rootB 0 (-1))

theorem root0_size : root0.size = 11 := by
  unfold root0 sealB
  rw [ByteArray.size_append, rootB_size]
  rfl

theorem rootT_zero : rootT 0 (-1) = .tuple #[.string root0, .bool true] := by
  unfold rootT root0
  rw [if_pos (by decide)]

theorem rootA_zero : rootA root0 = some (0, -1) := rootA_back 0 (-1) (by decide)

theorem rootA_empty : rootA ⟨#[]⟩ = none := by
  unfold rootA
  rw [if_neg]
  rintro ⟨h, _⟩
  exact absurd h (by decide)

/-- The sectors of a new store's device. -/
def fmtN (n : Nat) : List ByteArray := root0 :: List.replicate (n - 1) ⟨#[]⟩

theorem fmtN_length (n : Nat) (h : 1 ≤ n) : (fmtN n).length = n := by unfold fmtN; simp; omega

theorem fmtN_set (n : Nat) (h : 1 ≤ n) : (List.replicate n (⟨#[]⟩ : ByteArray)).set 0 root0 = fmtN n := by
  obtain ⟨m, rfl⟩ : ∃ m, n = m + 1 := ⟨n - 1, by omega⟩
  simp [fmtN, List.replicate_succ]

theorem devOk_new (n : Nat) (h0 : 1 ≤ n) (h1 : n ≤ 400) : devOk (List.replicate n ⟨#[]⟩) [] = true := by
  have e : (List.replicate n (⟨#[]⟩ : ByteArray)).all secOk = true := by
    rw [List.all_eq_true]
    intro s hs
    rw [List.eq_of_mem_replicate hs]
    rfl
  unfold devOk
  rw [e]
  simp
  omega

theorem wrOk_new (n : Nat) (h0 : 1 ≤ n) (h1 : n ≤ 400) : wrOk (List.replicate n ⟨#[]⟩) [] 0 root0 = true := by
  unfold wrOk putOk
  rw [devOk_new n h0 h1, root0_size]
  simp
  omega

theorem devOk_put (n : Nat) (h0 : 1 ≤ n) (h1 : n ≤ 400) : devOk (List.replicate n ⟨#[]⟩) [(0, root0)] = true := by
  have e : (List.replicate n (⟨#[]⟩ : ByteArray)).all secOk = true := by
    rw [List.all_eq_true]
    intro s hs
    rw [List.eq_of_mem_replicate hs]
    rfl
  unfold devOk
  rw [e]
  simp [putOk2, putOk, root0_size]
  omega

theorem flush_put (n : Nat) (h0 : 1 ≤ n) : flushL (List.replicate n ⟨#[]⟩) [(0, root0)] = fmtN n := by
  rw [← fmtN_set n h0]
  rfl

theorem fmtN_sec (n : Nat) : ∀ s ∈ fmtN n, s.size ≤ 64 := by
  intro s hs
  unfold fmtN at hs
  rcases List.mem_cons.1 hs with h | h
  · rw [h, root0_size]; omega
  · rw [List.eq_of_mem_replicate h]; decide

theorem devOk_fmt (n : Nat) (h0 : 1 ≤ n) (h1 : n ≤ 400) : devOk (fmtN n) [] = true := by
  have e : (fmtN n).all secOk = true := by
    rw [List.all_eq_true]
    intro s hs
    have := fmtN_sec n s hs
    unfold secOk
    simp
    omega
  unfold devOk
  rw [e, fmtN_length n h0]
  simp
  omega

theorem last_fmt (n : Nat) (h0 : 4 ≤ n) (h1 : n ≤ 400) : lastV (readDv (fmtN n) [] 0).1 (readDv (fmtN n) [] 1).1 = .tuple #[.agg #[.int .i64 0, .int .i64 (-1)], .int .i64 0, .bool true] := by
  have hl := fmtN_length n (by omega)
  have hd := devOk_fmt n (by omega) h1
  have e0 : (readDv (fmtN n) [] 0).1 = root0 := by
    unfold readDv
    rw [if_pos ⟨hd, by omega, by omega⟩]
    rfl
  have e1 : (readDv (fmtN n) [] 1).1 = ⟨#[]⟩ := by
    unfold readDv
    rw [if_pos ⟨hd, by omega, by omega⟩]
    obtain ⟨m, rfl⟩ : ∃ m, n = m + 2 := ⟨n - 2, by omega⟩
    simp [fmtN, lastOf, List.replicate_succ]
  rw [e0, e1]
  unfold lastV rootF rootS rootR
  rw [rootA_zero, rootA_empty]
  simp

/-- What FormatStore tells. -/
def fmtOk (x : Int) : Bool := decide (4 ≤ x ∧ x ≤ 400)
def fmtL (x : Int) : List ByteArray := if 4 ≤ x ∧ x ≤ 400 then fmtN x.toNat else []
def fmtT (x : Int) : Int := if 4 ≤ x ∧ x ≤ 400 then -1 else 0

theorem fmtL_length (x : Int) : (fmtL x).length ≤ 400 := by
  unfold fmtL
  split
  · rw [fmtN_length _ (by omega)]; omega
  · simp

/-- What a function answers that hands back a store without pairs and a flag. -/
def StPost (w : World) (L : List ByteArray) (t : Int) (b : Bool) (e : Ending) (w' : World) : Prop :=
  (∃ v0 v1, e = .returned (.tuple #[.agg #[v0, v1, .slice none 0 0, .int .i64 0, .int .i64 t], .bool b]) ∧ DevOwn w' w.heap.size (.agg #[v0, v1]) L []) ∧ Below w.heap.size w w'
end Go.Proofs.YtjhnippfepbjmaaGreatDoor
