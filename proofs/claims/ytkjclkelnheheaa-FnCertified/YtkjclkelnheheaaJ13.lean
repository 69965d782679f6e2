/-
 GrAlien, SvMem, GrGOwn, GrGroup2.
-/
import Derived.Test.YtkjclkelnheheaaJ7
import Derived.Test.YtkjclkelnheheaaJ11
import Derived.Test.YtkjclkelnheheaaJ2
import Derived.Test.YtkjclkelnheheaaJ8
namespace Go.Proofs.Ytkjclkelnheheaa
namespace Gr
open Go.RowKit
def Alien (w : World) (k : Nat) (e : TypeId) : Prop := ∃ C t z, w.heap[k]? = some (.cells C t z) ∧ t ≠ e
theorem Blk.alien {w : World} {g : Nat} {C : Array Value} {t : TypeId} (h : Blk w g C t) {e : TypeId} (hne : t ≠ e) : Alien w g e := ⟨C, t, _, h, hne⟩
theorem own_alien {w : World} {B e size n : Nat} {v : Value} {xs : List Value} (h : w.ownsRow B e size v n xs) {e' : TypeId} (hne : e ≠ e') : ∀ k, v.ownBlock = some k → Alien w k e' := by
  intro k hk
  rcases h.2 with ⟨rfl, _⟩ | ⟨g, cap, cur, rfl, _, hg, _⟩
  · simp [Value.ownBlock] at hk
  · have e1 : g = k := Option.some.inj hk
    subst e1
    exact ⟨_, _, _, hg, hne⟩
theorem Kept.own_alien {S : Nat → Prop} {w w' : World} {B e size n : Nat} {v : Value} {xs : List Value} (h : Kept S w w') (ho : w.ownsRow B e size v n xs) (hS : ∀ k, S k → Alien w k e) : w'.ownsRow B e size v n xs := by
  refine h.own ho (fun g hg hs => ?_)
  obtain ⟨C, t, z, h1, h2⟩ := hS g hs
  rcases ho.2 with ⟨rfl, _⟩ | ⟨g', cap, cur, rfl, _, hg', _⟩
  · simp [Value.ownBlock] at hg
  · have e1 : g' = g := Option.some.inj hg
    subst e1
    rw [h1] at hg'
    simp at hg'
    exact h2 hg'.2.1
theorem Blk.kept_alien {S : Nat → Prop} {w w' : World} {g : Nat} {C : Array Value} {t : TypeId} (h : Blk w g C t) (hk : Kept S w w') (hS : ∀ k, S k → Alien w k t) : Blk w' g C t := by
  refine h.kept hk (fun hs => ?_)
  obtain ⟨C', t', z, h1, h2⟩ := hS g hs
  unfold Blk at h
  rw [h1] at h
  simp at h
  exact h2 h.2.1
theorem Kept.over {S : Nat → Prop} {a b c : World} {g : Nat} (h : Kept S a b) (k : Kept (fun i => i = g) b c) (hg : a.heap.size ≤ g := by omega) : Kept S a c :=
  ⟨k.1.trans h.1, k.2.1.trans h.2.1, k.2.2.1.trans h.2.2.1, Nat.le_trans h.2.2.2.1 k.2.2.2.1, fun i hi hn => (k.2.2.2.2 i (Nat.lt_of_lt_of_le hi h.2.2.2.1) (by omega)).trans (h.2.2.2.2 i hi hn)⟩
end Gr
end Go.Proofs.Ytkjclkelnheheaa
namespace Go.Proofs.Ytkjclkelnheheaa
namespace Sv
open Go.RowKit Gr
def lksV (M : List Lk) : List Value := M.flatMap fun x => [.int .i64 (x.f : Int), .int .i64 (x.t : Int)]
def natsV (L : List Nat) : List Value := L.map fun (n : Nat) => .int .i64 (n : Int)
def ndsV : List Value → List Value → List Nd → List Value
  | r :: rs, l :: ls, x :: N => r :: l :: .int .i64 (x.base : Int) :: .int .i64 x.z :: .int .i64 x.up :: .bool x.gone :: ndsV rs ls N
  | _, _, _ => []
theorem lksV_length (M : List Lk) : (lksV M).length = M.length * 2 := by
  induction M with
  | nil => rfl
  | cons x r ih =>
    have e : lksV (x :: r) = .int .i64 (x.f : Int) :: .int .i64 (x.t : Int) :: lksV r := rfl
    rw [e]; simp only [List.length_cons, ih]; omega
theorem lksV_at : ∀ (M : List Lk) (j : Nat) (h : j < M.length), (lksV M)[j * 2]? = some (.int .i64 (M[j].f : Int)) ∧ (lksV M)[j * 2 + 1]? = some (.int .i64 (M[j].t : Int))
  | x :: r, 0, _ => ⟨rfl, rfl⟩
  | x :: r, j + 1, h => by
    have e : lksV (x :: r) = .int .i64 (x.f : Int) :: .int .i64 (x.t : Int) :: lksV r := rfl
    have ih := lksV_at r j (by simpa using h)
    rw [e, show (j + 1) * 2 = j * 2 + 1 + 1 by omega, List.getElem?_cons_succ, List.getElem?_cons_succ, List.getElem?_cons_succ, List.getElem?_cons_succ]
    exact ih
theorem lksV_snoc (M : List Lk) (x : Lk) : lksV (M ++ [x]) = lksV M ++ [.int .i64 (x.f : Int), .int .i64 (x.t : Int)] := by simp [lksV]
theorem ndsV_at : ∀ (rs ls : List Value) (N : List Nd) (j : Nat) (h1 : j < rs.length) (h2 : j < ls.length) (h : j < N.length),
    (ndsV rs ls N)[j * 6]? = some rs[j] ∧ (ndsV rs ls N)[j * 6 + 1]? = some ls[j] ∧ (ndsV rs ls N)[j * 6 + 2]? = some (.int .i64 (N[j].base : Int)) ∧ (ndsV rs ls N)[j * 6 + 3]? = some (.int .i64 N[j].z) ∧ (ndsV rs ls N)[j * 6 + 4]? = some (.int .i64 N[j].up) ∧ (ndsV rs ls N)[j * 6 + 5]? = some (.bool N[j].gone)
  | r :: rs, l :: ls, x :: N, 0, _, _, _ => ⟨rfl, rfl, rfl, rfl, rfl, rfl⟩
  | r :: rs, l :: ls, x :: N, j + 1, h1, h2, h => by
    have ih := ndsV_at rs ls N j (by simpa using h1) (by simpa using h2) (by simpa using h)
    rw [show (j + 1) * 6 = j * 6 + 6 by omega]
    exact ih
  | [], _, _, _, h1, _, _ => by simp at h1
  | _ :: _, [], _, _, _, h2, _ => by simp at h2
  | _ :: _, _ :: _, [], _, _, _, h => by simp at h
theorem ndsV_set : ∀ (rs ls : List Value) (N : List Nd) (j : Nat), rs.length = N.length → ls.length = N.length → j < N.length →
    (∀ u, (ndsV rs ls N).set (j * 6 + 4) (.int .i64 u) = ndsV rs ls (N.set j { nd N j with up := u })) ∧ (∀ u, (ndsV rs ls N).set (j * 6 + 3) (.int .i64 u) = ndsV rs ls (N.set j { nd N j with z := u })) ∧ (∀ u, (ndsV rs ls N).set (j * 6 + 5) (.bool u) = ndsV rs ls (N.set j { nd N j with gone := u }))
  | r :: rs, l :: ls, x :: N, 0, _, _, _ => ⟨fun _ => rfl, fun _ => rfl, fun _ => rfl⟩
  | r :: rs, l :: ls, x :: N, j + 1, h1, h2, h => by
    obtain ⟨i1, i2, i3⟩ := ndsV_set rs ls N j (by simpa using h1) (by simpa using h2) (by simpa using h)
    have e : nd (x :: N) (j + 1) = nd N j := rfl
    rw [e, show (j + 1) * 6 = j * 6 + 6 by omega]
    refine ⟨fun u => ?_, fun u => ?_, fun u => ?_⟩
    · show r :: l :: _ :: _ :: _ :: _ :: (ndsV rs ls N).set (j * 6 + 4) _ = _
      rw [i1]; rfl
    · show r :: l :: _ :: _ :: _ :: _ :: (ndsV rs ls N).set (j * 6 + 3) _ = _
      rw [i2]; rfl
    · show r :: l :: _ :: _ :: _ :: _ :: (ndsV rs ls N).set (j * 6 + 5) _ = _
      rw [i3]; rfl
  | [], _, _ :: _, _, h1, _, _ => by simp at h1
  | _ :: _, [], _ :: _, _, _, h2, _ => by simp at h2
  | _, _, [], _, _, _, h => by simp at h
def LkOwn (w : World) (B : Nat) (v : Value) (M : List Lk) : Prop := w.ownsRow B 83 2 v M.length (lksV M)
def NaOwn (w : World) (B : Nat) (v : Value) (L : List Nat) : Prop := w.ownsRow B 3 1 v L.length (natsV L)
theorem addr_add (g i : Nat) : (⟨g, 0, none⟩ : Addr).add i = ⟨g, i, none⟩ := by
  unfold Addr.add
  split
  · rename_i h; subst h; rfl
  · simp
/-- The values that a run's variable holds. -/
structure Vs where
  y : Value
  n : Value
  m : Value
  rs : List Value
  ls : List Value
/-- A run in memory. -/
structure RunAt (w : World) (b lo : Nat) (aQ : Option Addr) (cQ : Nat) (s : Nat) (Q : List EdgeI) (y : List Int) (N : List Nd) (M : List Lk) (k : Int) (d : Bool) (v : Vs) : Prop where
  box : Blk w b #[.int .i64 (s : Int), .slice aQ Q.length cQ, v.y, v.n, v.m, .int .i64 k, .bool d] 78
  edges : edgesAt w aQ Q.length lo Q
  ys : w.ownsRow lo 3 1 v.y y.length (intsV y)
  ns : w.ownsRow lo 102 6 v.n N.length (ndsV v.rs v.ls N)
  ms : LkOwn w lo v.m M
  rl : v.rs.length = N.length
  ll : v.ls.length = N.length
  rings : ∀ j (h : j < N.length) (h1 : j < v.rs.length), NaOwn w lo v.rs[j] N[j].ring
  lnks : ∀ j (h : j < N.length) (h1 : j < v.ls.length), LkOwn w lo v.ls[j] N[j].links
  d1 : ∀ u ∈ v.rs, ∀ g, u.ownBlock = some g → v.y.ownBlock ≠ some g
  d2 : ∀ u ∈ v.ls, ∀ g, u.ownBlock = some g → v.m.ownBlock ≠ some g
  blo : lo ≤ b
theorem RunAt.below {w w' : World} {b lo : Nat} {aQ : Option Addr} {cQ s : Nat} {Q : List EdgeI} {y : List Int} {N : List Nd} {M : List Lk} {k : Int} {d : Bool} {v : Vs} (h : RunAt w b lo aQ cQ s Q y N M k d v) (hb : Below w.heap.size w w') (hlo : lo ≤ w.heap.size) : RunAt w' b lo aQ cQ s Q y N M k d v :=
  ⟨h.box.below hb, h.edges.below hb hlo, own_below h.ys hb, own_below h.ns hb, own_below h.ms hb, h.rl, h.ll, fun j h0 h1 => own_below (h.rings j h0 h1) hb, fun j h0 h1 => own_below (h.lnks j h0 h1) hb, h.d1, h.d2, h.blo⟩
def Foot (b : Nat) (v : Vs) (i : Nat) : Prop := i = b ∨ v.y.ownBlock = some i ∨ v.n.ownBlock = some i ∨ v.m.ownBlock = some i
theorem RunAt.node {w : World} {b lo : Nat} {aQ : Option Addr} {cQ s : Nat} {Q : List EdgeI} {y : List Int} {N : List Nd} {M : List Lk} {k : Int} {d : Bool} {v : Vs} (h : RunAt w b lo aQ cQ s Q y N M k d v) (hN : 0 < N.length) :
    ∃ g c, v.n = .slice (some ⟨g, 0, none⟩) N.length c ∧ lo ≤ g ∧ g < w.heap.size ∧ w.cell? ⟨b, 3, none⟩ = some (.slice (some ⟨g, 0, none⟩) N.length c) ∧ ∀ j, j < N.length →
      w.cell? ⟨g, j * 6, none⟩ = some (v.rs.getD j undef) ∧ w.cell? ⟨g, j * 6 + 1, none⟩ = some (v.ls.getD j undef) ∧ w.cell? ⟨g, j * 6 + 2, none⟩ = some (.int .i64 ((nd N j).base : Int)) ∧ w.cell? ⟨g, j * 6 + 3, none⟩ = some (.int .i64 (nd N j).z) ∧ w.cell? ⟨g, j * 6 + 4, none⟩ = some (.int .i64 (upA N j)) ∧ w.cell? ⟨g, j * 6 + 5, none⟩ = some (.bool (nd N j).gone) := by
  have hns := h.ns
  have hlt := hns.lt
  rcases hns.2 with ⟨_, h0⟩ | ⟨g, cap, cur, e, h1, h2, _⟩
  · omega
  · have hb := h.box.cell 3 _ rfl
    rw [e] at hb
    obtain ⟨l1, l2⟩ := hlt g (by rw [e]; rfl)
    refine ⟨g, cap, e, h1, l2, hb, fun j hj => ?_⟩
    have r1 : j < v.rs.length := by rw [h.rl]; exact hj
    have r2 : j < v.ls.length := by rw [h.ll]; exact hj
    obtain ⟨c0, c1, c2, c3, c4, c5⟩ := ndsV_at v.rs v.ls N j r1 r2 hj
    have hc := fun i u hu => hns.cells (g := g) (by rw [e]; rfl) i u hu
    have e1 : nd N j = N[j] := getD_at _ _ _ hj
    have e2 : v.rs.getD j undef = v.rs[j] := getD_at _ _ _ r1
    have e3 : v.ls.getD j undef = v.ls[j] := getD_at _ _ _ r2
    have e4 : upA N j = N[j].up := by unfold upA; rw [e1]
    rw [e1, e2, e3, e4]
    have z := fun i u (hu : (ndsV v.rs v.ls N)[i]? = some u) => by have := hc i u hu; rwa [addr_add] at this
    exact ⟨z _ _ c0, z _ _ c1, z _ _ c2, z _ _ c3, z _ _ c4, z _ _ c5⟩
end Sv
end Go.Proofs.Ytkjclkelnheheaa
namespace Go.Proofs.Ytkjclkelnheheaa
namespace Gr
open Go.ChangeShapes Go.WideShapes Go.ChangeAt Go.RowKit
def gC : List Value → List Int → List Value
  | m :: ms, z :: zs => m :: .int .i64 z :: gC ms zs
  | _, _ => []
theorem gC_length : ∀ (ms : List Value) (zs : List Int), ms.length = zs.length → (gC ms zs).length = zs.length * 2
  | [], [], _ => rfl
  | m :: ms, z :: zs, h => by
    have := gC_length ms zs (by simpa using h)
    simp only [gC, List.length_cons, this]
    omega
  | [], z :: zs, h => by simp at h
  | m :: ms, [], h => by simp at h
theorem gC_at : ∀ (ms : List Value) (zs : List Int) (j : Nat) (h1 : j < ms.length) (h2 : j < zs.length), (gC ms zs)[j * 2]? = some ms[j] ∧ (gC ms zs)[j * 2 + 1]? = some (.int .i64 zs[j])
  | [], _, _, h1, _ => by simp at h1
  | m :: ms, [], _, _, h2 => by simp at h2
  | m :: ms, z :: zs, 0, _, _ => ⟨rfl, rfl⟩
  | m :: ms, z :: zs, j + 1, h1, h2 => by
    have := gC_at ms zs j (by simpa using h1) (by simpa using h2)
    simp only [gC, List.getElem_cons_succ]
    rw [show (j + 1) * 2 = j * 2 + 1 + 1 by omega]
    simpa using this
def zsOf (G : List GrpI) : List Int := G.map (·.Z)
theorem zsOf_length (G : List GrpI) : (zsOf G).length = G.length := by simp [zsOf]
theorem zsOf_at (G : List GrpI) (j : Nat) (h : j < (zsOf G).length) (h2 : j < G.length) : (zsOf G)[j] = G[j].Z := by simp [zsOf]
def DistV (vs : List Value) : Prop := ∀ i j (hi : i < vs.length) (hj : j < vs.length) g, vs[i].ownBlock = some g → vs[j].ownBlock = some g → i = j
def GOwn (w : World) (B : Nat) (v : Value) (ms : List Value) (G : List GrpI) : Prop :=
  ms.length = G.length ∧ w.ownsRow B 54 2 v G.length (gC ms (zsOf G)) ∧ ∀ j (h1 : j < ms.length) (h2 : j < G.length), InOwn w B ms[j] G[j].M
theorem GOwn.below {w w' : World} {B : Nat} {v : Value} {ms : List Value} {G : List GrpI} (h : GOwn w B v ms G) (hb : Below w.heap.size w w') : GOwn w' B v ms G :=
  ⟨h.1, own_below h.2.1 hb, fun j h1 h2 => (h.2.2 j h1 h2).below hb⟩
end Gr
end Go.Proofs.Ytkjclkelnheheaa
namespace Go.Proofs.Ytkjclkelnheheaa
namespace Gr
open Go.RowKit
def psize (Y : List Int) (G : List GrpI) : Nat := min (Y.length + (G.length + gbulk G)) 9223372036854775807
end Gr
end Go.Proofs.Ytkjclkelnheheaa
