/-
 GrAlien, SvMem, GrGOwn, GrGroup2, GrStrM, GrParts, CfS.
-/
import Derived.Test.YthbhdfeafbineaaGreatJ7
import Derived.Test.YthbhdfeafbineaaGreatJ11
import Derived.Test.YthbhdfeafbineaaGreatJ2
import Derived.Test.YthbhdfeafbineaaGreatJ8
import Derived.Test.YthbhdfeafbineaaGreatJ3
import Derived.BigQuiet
namespace Go.Proofs.YthbhdfeafbineaaGreat
namespace Gr
open Go.RowKit
def Alien (w : World) (k : Nat) (e : TypeId) : Prop := ∃ C t z, w.heap[k]? = some (.cells C t z) ∧ t ≠ e
theorem Blk.alien {w : World} {g : Nat} {C : Array Value} {t : TypeId} (h : Blk w g C t) {e : TypeId} (hne : t ≠ e) : Alien w g e := ⟨C, t, _, h, hne⟩
theorem own_alien {w : World} {B e size n : Nat} {v : Value} {xs : List Value} (h : w.ownsRow B e size v n xs) {e' : TypeId} (hne : e ≠ e') : ∀ k, v.ownBlock = some k → Alien w k e' := by
  intro k hk
  rcases h.2 with ⟨rfl, _⟩ | ⟨g, cap, cur, rfl, _, hg, _⟩
  · simp [Value.ownBlock] at hk
  · have e1 : g = k := Option.some.inj hk
    subst e1
    exact ⟨_, _, _, hg, hne⟩
theorem Kept.own_alien {S : Nat → Prop} {w w' : World} {B e size n : Nat} {v : Value} {xs : List Value} (h : Kept S w w') (ho : w.ownsRow B e size v n xs) (hS : ∀ k, S k → Alien w k e) : w'.ownsRow B e size v n xs := by
  refine h.own ho (fun g hg hs => ?_)
  obtain ⟨C, t, z, h1, h2⟩ := hS g hs
  rcases ho.2 with ⟨rfl, _⟩ | ⟨g', cap, cur, rfl, _, hg', _⟩
  · simp [Value.ownBlock] at hg
  · have e1 : g' = g := Option.some.inj hg
    subst e1
    rw [h1] at hg'
    simp at hg'
    exact h2 hg'.2.1
theorem Blk.kept_alien {S : Nat → Prop} {w w' : World} {g : Nat} {C : Array Value} {t : TypeId} (h : Blk w g C t) (hk : Kept S w w') (hS : ∀ k, S k → Alien w k t) : Blk w' g C t := by
  refine h.kept hk (fun hs => ?_)
  obtain ⟨C', t', z, h1, h2⟩ := hS g hs
  unfold Blk at h
  rw [h1] at h
  simp at h
  exact h2 h.2.1
theorem Kept.over {S : Nat → Prop} {a b c : World} {g : Nat} (h : Kept S a b) (k : Kept (fun i => i = g) b c) (hg : a.heap.size ≤ g := by omega) : Kept S a c :=
  ⟨k.1.trans h.1, k.2.1.trans h.2.1, k.2.2.1.trans h.2.2.1, Nat.le_trans h.2.2.2.1 k.2.2.2.1, fun i hi hn => (k.2.2.2.2 i (Nat.lt_of_lt_of_le hi h.2.2.2.1) (by omega)).trans (h.2.2.2.2 i hi hn)⟩
end Gr
end Go.Proofs.YthbhdfeafbineaaGreat
namespace Go.Proofs.YthbhdfeafbineaaGreat
namespace Sv
open Go.RowKit Gr
def lksV (M : List Lk) : List Value := M.flatMap fun x => [.int .i64 (x.f : Int), .int .i64 (x.t : Int)]
def natsV (L : List Nat) : List Value := L.map fun (n : Nat) => .int .i64 (n : Int)
def ndsV : List Value → List Value → List Nd → List Value
  | r :: rs, l :: ls, x :: N => r :: l :: .int .i64 (x.base : Int) :: .int .i64 x.z :: .int .i64 x.up :: .bool x.gone :: ndsV rs ls N
  | _, _, _ => []
theorem lksV_length (M : List Lk) : (lksV M).length = M.length * 2 := by
  induction M with
  | nil => rfl
  | cons x r ih =>
    have e : lksV (x :: r) = .int .i64 (x.f : Int) :: .int .i64 (x.t : Int) :: lksV r := rfl
    rw [e]; simp only [List.length_cons, ih]; omega
theorem lksV_at : ∀ (M : List Lk) (j : Nat) (h : j < M.length), (lksV M)[j * 2]? = some (.int .i64 (M[j].f : Int)) ∧ (lksV M)[j * 2 + 1]? = some (.int .i64 (M[j].t : Int))
  | x :: r, 0, _ => ⟨rfl, rfl⟩
  | x :: r, j + 1, h => by
    have e : lksV (x :: r) = .int .i64 (x.f : Int) :: .int .i64 (x.t : Int) :: lksV r := rfl
    have ih := lksV_at r j (by simpa using h)
    rw [e, show (j + 1) * 2 = j * 2 + 1 + 1 by omega, List.getElem?_cons_succ, List.getElem?_cons_succ, List.getElem?_cons_succ, List.getElem?_cons_succ]
    exact ih
theorem lksV_snoc (M : List Lk) (x : Lk) : lksV (M ++ [x]) = lksV M ++ [.int .i64 (x.f : Int), .int .i64 (x.t : Int)] := by simp [lksV]
theorem ndsV_at : ∀ (rs ls : List Value) (N : List Nd) (j : Nat) (h1 : j < rs.length) (h2 : j < ls.length) (h : j < N.length),
    (ndsV rs ls N)[j * 6]? = some rs[j] ∧ (ndsV rs ls N)[j * 6 + 1]? = some ls[j] ∧ (ndsV rs ls N)[j * 6 + 2]? = some (.int .i64 (N[j].base : Int)) ∧ (ndsV rs ls N)[j * 6 + 3]? = some (.int .i64 N[j].z) ∧ (ndsV rs ls N)[j * 6 + 4]? = some (.int .i64 N[j].up) ∧ (ndsV rs ls N)[j * 6 + 5]? = some (.bool N[j].gone)
  | r :: rs, l :: ls, x :: N, 0, _, _, _ => ⟨rfl, rfl, rfl, rfl, rfl, rfl⟩
  | r :: rs, l :: ls, x :: N, j + 1, h1, h2, h => by
    have ih := ndsV_at rs ls N j (by simpa using h1) (by simpa using h2) (by simpa using h)
    rw [show (j + 1) * 6 = j * 6 + 6 by omega]
    exact ih
  | [], _, _, _, h1, _, _ => by simp at h1
  | _ :: _, [], _, _, _, h2, _ => by simp at h2
  | _ :: _, _ :: _, [], _, _, _, h => by simp at h
theorem ndsV_set : ∀ (rs ls : List Value) (N : List Nd) (j : Nat), rs.length = N.length → ls.length = N.length → j < N.length →
    (∀ u, (ndsV rs ls N).set (j * 6 + 4) (.int .i64 u) = ndsV rs ls (N.set j { nd N j with up := u })) ∧ (∀ u, (ndsV rs ls N).set (j * 6 + 3) (.int .i64 u) = ndsV rs ls (N.set j { nd N j with z := u })) ∧ (∀ u, (ndsV rs ls N).set (j * 6 + 5) (.bool u) = ndsV rs ls (N.set j { nd N j with gone := u }))
  | r :: rs, l :: ls, x :: N, 0, _, _, _ => ⟨fun _ => rfl, fun _ => rfl, fun _ => rfl⟩
  | r :: rs, l :: ls, x :: N, j + 1, h1, h2, h => by
    obtain ⟨i1, i2, i3⟩ := ndsV_set rs ls N j (by simpa using h1) (by simpa using h2) (by simpa using h)
    have e : nd (x :: N) (j + 1) = nd N j := rfl
    rw [e, show (j + 1) * 6 = j * 6 + 6 by omega]
    refine ⟨fun u => ?_, fun u => ?_, fun u => ?_⟩
    · show r :: l :: _ :: _ :: _ :: _ :: (ndsV rs ls N).set (j * 6 + 4) _ = _
      rw [i1]; rfl
    · show r :: l :: _ :: _ :: _ :: _ :: (ndsV rs ls N).set (j * 6 + 3) _ = _
      rw [i2]; rfl
    · show r :: l :: _ :: _ :: _ :: _ :: (ndsV rs ls N).set (j * 6 + 5) _ = _
      rw [i3]; rfl
  | [], _, _ :: _, _, h1, _, _ => by simp at h1
  | _ :: _, [], _ :: _, _, _, h2, _ => by simp at h2
  | _, _, [], _, _, _, h => by simp at h
def LkOwn (w : World) (B : Nat) (v : Value) (M : List Lk) : Prop := w.ownsRow B 118 2 v M.length (lksV M)
def NaOwn (w : World) (B : Nat) (v : Value) (L : List Nat) : Prop := w.ownsRow B 3 1 v L.length (natsV L)
theorem addr_add (g i : Nat) : (⟨g, 0, none⟩ : Addr).add i = ⟨g, i, none⟩ := by
  unfold Addr.add
  split
  · rename_i h; subst h; rfl
  · simp
/-- The values that a run's variable holds. -/
structure Vs where
  y : Value
  n : Value
  m : Value
  rs : List Value
  ls : List Value
/-- A run in memory. -/
structure RunAt (w : World) (b lo : Nat) (aQ : Option Addr) (cQ : Nat) (s : Nat) (Q : List EdgeI) (y : List Int) (N : List Nd) (M : List Lk) (k : Int) (d : Bool) (v : Vs) : Prop where
  box : Blk w b #[.int .i64 (s : Int), .slice aQ Q.length cQ, v.y, v.n, v.m, .int .i64 k, .bool d] 113
  edges : edgesAt w aQ Q.length lo Q
  ys : w.ownsRow lo 3 1 v.y y.length (intsV y)
  ns : w.ownsRow lo 138 6 v.n N.length (ndsV v.rs v.ls N)
  ms : LkOwn w lo v.m M
  rl : v.rs.length = N.length
  ll : v.ls.length = N.length
  rings : ∀ j (h : j < N.length) (h1 : j < v.rs.length), NaOwn w lo v.rs[j] N[j].ring
  lnks : ∀ j (h : j < N.length) (h1 : j < v.ls.length), LkOwn w lo v.ls[j] N[j].links
  d1 : ∀ u ∈ v.rs, ∀ g, u.ownBlock = some g → v.y.ownBlock ≠ some g
  d2 : ∀ u ∈ v.ls, ∀ g, u.ownBlock = some g → v.m.ownBlock ≠ some g
  blo : lo ≤ b
theorem RunAt.below {w w' : World} {b lo : Nat} {aQ : Option Addr} {cQ s : Nat} {Q : List EdgeI} {y : List Int} {N : List Nd} {M : List Lk} {k : Int} {d : Bool} {v : Vs} (h : RunAt w b lo aQ cQ s Q y N M k d v) (hb : Below w.heap.size w w') (hlo : lo ≤ w.heap.size) : RunAt w' b lo aQ cQ s Q y N M k d v :=
  ⟨h.box.below hb, h.edges.below hb hlo, own_below h.ys hb, own_below h.ns hb, own_below h.ms hb, h.rl, h.ll, fun j h0 h1 => own_below (h.rings j h0 h1) hb, fun j h0 h1 => own_below (h.lnks j h0 h1) hb, h.d1, h.d2, h.blo⟩
def Foot (b : Nat) (v : Vs) (i : Nat) : Prop := i = b ∨ v.y.ownBlock = some i ∨ v.n.ownBlock = some i ∨ v.m.ownBlock = some i
theorem RunAt.node {w : World} {b lo : Nat} {aQ : Option Addr} {cQ s : Nat} {Q : List EdgeI} {y : List Int} {N : List Nd} {M : List Lk} {k : Int} {d : Bool} {v : Vs} (h : RunAt w b lo aQ cQ s Q y N M k d v) (hN : 0 < N.length) :
    ∃ g c, v.n = .slice (some ⟨g, 0, none⟩) N.length c ∧ lo ≤ g ∧ g < w.heap.size ∧ w.cell? ⟨b, 3, none⟩ = some (.slice (some ⟨g, 0, none⟩) N.length c) ∧ ∀ j, j < N.length →
      w.cell? ⟨g, j * 6, none⟩ = some (v.rs.getD j undef) ∧ w.cell? ⟨g, j * 6 + 1, none⟩ = some (v.ls.getD j undef) ∧ w.cell? ⟨g, j * 6 + 2, none⟩ = some (.int .i64 ((nd N j).base : Int)) ∧ w.cell? ⟨g, j * 6 + 3, none⟩ = some (.int .i64 (nd N j).z) ∧ w.cell? ⟨g, j * 6 + 4, none⟩ = some (.int .i64 (upA N j)) ∧ w.cell? ⟨g, j * 6 + 5, none⟩ = some (.bool (nd N j).gone) := by
  have hns := h.ns
  have hlt := hns.lt
  rcases hns.2 with ⟨_, h0⟩ | ⟨g, cap, cur, e, h1, h2, _⟩
  · omega
  · have hb := h.box.cell 3 _ rfl
    rw [e] at hb
    obtain ⟨l1, l2⟩ := hlt g (by rw [e]; rfl)
    refine ⟨g, cap, e, h1, l2, hb, fun j hj => ?_⟩
    have r1 : j < v.rs.length := by rw [h.rl]; exact hj
    have r2 : j < v.ls.length := by rw [h.ll]; exact hj
    obtain ⟨c0, c1, c2, c3, c4, c5⟩ := ndsV_at v.rs v.ls N j r1 r2 hj
    have hc := fun i u hu => hns.cells (g := g) (by rw [e]; rfl) i u hu
    have e1 : nd N j = N[j] := getD_at _ _ _ hj
    have e2 : v.rs.getD j undef = v.rs[j] := getD_at _ _ _ r1
    have e3 : v.ls.getD j undef = v.ls[j] := getD_at _ _ _ r2
    have e4 : upA N j = N[j].up := by unfold upA; rw [e1]
    rw [e1, e2, e3, e4]
    have z := fun i u (hu : (ndsV v.rs v.ls N)[i]? = some u) => by have := hc i u hu; rwa [addr_add] at this
    exact ⟨z _ _ c0, z _ _ c1, z _ _ c2, z _ _ c3, z _ _ c4, z _ _ c5⟩
end Sv
end Go.Proofs.YthbhdfeafbineaaGreat
namespace Go.Proofs.YthbhdfeafbineaaGreat
namespace Gr
open Go.ChangeShapes Go.WideShapes Go.ChangeAt Go.RowKit
def gC : List Value → List Int → List Value
  | m :: ms, z :: zs => m :: .int .i64 z :: gC ms zs
  | _, _ => []
theorem gC_length : ∀ (ms : List Value) (zs : List Int), ms.length = zs.length → (gC ms zs).length = zs.length * 2
  | [], [], _ => rfl
  | m :: ms, z :: zs, h => by
    have := gC_length ms zs (by simpa using h)
    simp only [gC, List.length_cons, this]
    omega
  | [], z :: zs, h => by simp at h
  | m :: ms, [], h => by simp at h
theorem gC_at : ∀ (ms : List Value) (zs : List Int) (j : Nat) (h1 : j < ms.length) (h2 : j < zs.length), (gC ms zs)[j * 2]? = some ms[j] ∧ (gC ms zs)[j * 2 + 1]? = some (.int .i64 zs[j])
  | [], _, _, h1, _ => by simp at h1
  | m :: ms, [], _, _, h2 => by simp at h2
  | m :: ms, z :: zs, 0, _, _ => ⟨rfl, rfl⟩
  | m :: ms, z :: zs, j + 1, h1, h2 => by
    have := gC_at ms zs j (by simpa using h1) (by simpa using h2)
    simp only [gC, List.getElem_cons_succ]
    rw [show (j + 1) * 2 = j * 2 + 1 + 1 by omega]
    simpa using this
theorem gC_set : ∀ (ms : List Value) (zs : List Int) (j : Nat) (z : Int), ms.length = zs.length → (gC ms zs).set (j * 2 + 1) (.int .i64 z) = gC ms (zs.set j z)
  | [], [], _, _, _ => rfl
  | m :: ms, y :: zs, 0, z, _ => rfl
  | m :: ms, y :: zs, j + 1, z, h => by
    have := gC_set ms zs j z (by simpa using h)
    simp only [gC, List.set_cons_succ]
    rw [show (j + 1) * 2 = j * 2 + 1 + 1 by omega]
    simp only [List.set_cons_succ]
    rw [this]
  | [], z :: zs, _, _, h => by simp at h
  | m :: ms, [], _, _, h => by simp at h
def zsOf (G : List GrpI) : List Int := G.map (·.Z)
theorem zsOf_length (G : List GrpI) : (zsOf G).length = G.length := by simp [zsOf]
theorem zsOf_at (G : List GrpI) (j : Nat) (h : j < (zsOf G).length) (h2 : j < G.length) : (zsOf G)[j] = G[j].Z := by simp [zsOf]
def DistV (vs : List Value) : Prop := ∀ i j (hi : i < vs.length) (hj : j < vs.length) g, vs[i].ownBlock = some g → vs[j].ownBlock = some g → i = j
def GOwn (w : World) (B : Nat) (v : Value) (ms : List Value) (G : List GrpI) : Prop :=
  ms.length = G.length ∧ w.ownsRow B 73 2 v G.length (gC ms (zsOf G)) ∧ ∀ j (h1 : j < ms.length) (h2 : j < G.length), InOwn w B ms[j] G[j].M
theorem GOwn.below {w w' : World} {B : Nat} {v : Value} {ms : List Value} {G : List GrpI} (h : GOwn w B v ms G) (hb : Below w.heap.size w w') : GOwn w' B v ms G :=
  ⟨h.1, own_below h.2.1 hb, fun j h1 h2 => (h.2.2 j h1 h2).below hb⟩
end Gr
end Go.Proofs.YthbhdfeafbineaaGreat
namespace Go.Proofs.YthbhdfeafbineaaGreat
namespace Gr
open Go.RowKit
def psize (Y : List Int) (G : List GrpI) : Nat := min (Y.length + (G.length + gbulk G)) 9223372036854775807
def partsF : Nat → ByteArray → List ByteArray
  | 0, t => if 0 < t.size then [t] else []
  | f + 1, t => if 40 < t.size then t.extract 0 40 :: partsF f (t.extract 40 t.size) else if 0 < t.size then [t] else []
def partsT (t : ByteArray) : List ByteArray := partsF t.size t
theorem partsF_enough : ∀ (f g : Nat) (t : ByteArray), t.size ≤ f → t.size ≤ g → partsF f t = partsF g t
  | 0, 0, _, _, _ => rfl
  | 0, g + 1, t, hf, _ => by
    unfold partsF
    rw [if_neg (by omega), if_neg (by omega)]
  | f + 1, 0, t, _, hg => by
    unfold partsF
    rw [if_neg (show ¬ 40 < t.size by omega), if_neg (by omega)]
  | f + 1, g + 1, t, hf, hg => by
    unfold partsF
    split
    · have hs : (t.extract 40 t.size).size ≤ f ∧ (t.extract 40 t.size).size ≤ g := by rw [ByteArray.size_extract]; omega
      rw [partsF_enough f g _ hs.1 hs.2]
    · rfl
theorem parts_more (t : ByteArray) (h : 40 < t.size) : partsT t = t.extract 0 40 :: partsT (t.extract 40 t.size) := by
  have e : (t.extract 40 t.size).size ≤ t.size - 1 := by rw [ByteArray.size_extract]; omega
  have h1 : partsT t = partsF (t.size - 1 + 1) t := by unfold partsT; rw [show t.size - 1 + 1 = t.size by omega]
  rw [h1, partsF, if_pos h, partsF_enough (t.size - 1) (t.extract 40 t.size).size _ e (Nat.le_refl _)]
  rfl
theorem parts_last (t : ByteArray) (h : ¬ 40 < t.size) (h0 : 0 < t.size) : partsT t = [t] := by
  have h1 : partsT t = partsF (t.size - 1 + 1) t := by unfold partsT; rw [show t.size - 1 + 1 = t.size by omega]
  rw [h1, partsF, if_neg h, if_pos h0]
theorem parts_none (t : ByteArray) (h0 : ¬ 0 < t.size) : partsT t = [] := by
  have : t.size = 0 := by omega
  unfold partsT
  rw [this, partsF, if_neg h0]
theorem partsF_length : ∀ (f : Nat) (t : ByteArray), (partsF f t).length ≤ t.size
  | 0, t => by unfold partsF; split <;> simp <;> omega
  | f + 1, t => by
    unfold partsF
    split
    · have := partsF_length f (t.extract 40 t.size)
      rw [ByteArray.size_extract] at this
      rw [List.length_cons]
      omega
    · split <;> simp <;> omega
theorem info_string : (Tryz.prog.info? 9).map (fun i => (i.zero, i.size, i.bytes)) = some (some (.string ⟨#[]⟩), 1, 16) := by kernel_rfl
theorem one_text (x : ByteArray) : ∀ u, u ∈ [Value.string x] → u.oneCell' = true := by
  intro u hu; simp at hu; subst hu; rfl
theorem own_text {w1 : World} {B e : Nat} {v' : Value} {L : List ByteArray} {x : ByteArray} (h : w1.ownsRow B e 1 v' (L.length + 1) (textsV L ++ [.string x])) : w1.ownsRow B e 1 v' (L ++ [x]).length (textsV (L ++ [x])) := by
  simpa [textsV] using h
theorem parts_length (t : ByteArray) : (partsT t).length ≤ t.size := partsF_length _ t
set_option maxRecDepth 100000 in
set_option maxHeartbeats 1000000 in
theorem sameInts_any (a a' : Option Addr) (len c c' B B' : Nat) (L : List Int) (hlen : len ≤ 1048576) (w : World) (hB : B ≤ w.heap.size) (hB' : B' ≤ w.heap.size) (hs : IntsAt w a len B L) (hs' : IntsAt w a' len B' L) :
    Calls Tryz.prog 30 #[.slice a len c, .slice a' len c'] w fun e w' => e = .returned (.bool true) ∧ Below w.heap.size w w' := by
  obtain ⟨hL, hc⟩ := hs
  obtain ⟨_, hc'⟩ := hs'
  have HC := hide hc
  have HC' := hide hc'
  have HL := hide hL
  clear hc hc' hL
  go_enter Tryz.func30, Tryz.ntmps30
  go_wp2_with fail
  go_loopw [5] (fun i wr => ∃ k : Nat, i = .int .i64 k ∧ k ≤ len ∧ Below w.heap.size w wr) (fun i _ => len - (intOf i).toNat)
  case atStart => exact ⟨0, rfl, Nat.zero_le _, Below.refl _ _⟩
  case round =>
    obtain ⟨k, rfl, hk, hb⟩ := hrel
    by_cases hlt : k < len
    · have hkL : k < L.length := by have := unhide HL; omega
      obtain ⟨b, off, rfl, hbB, hcell⟩ := unhide HC k hkL
      obtain ⟨b', off', rfl, hbB', hcell'⟩ := unhide HC' k hkL
      rw [← hb.cell (p := ⟨b, off + k, none⟩) (by simp; omega)] at hcell
      rw [← hb.cell (p := ⟨b', off' + k, none⟩) (by simp; omega)] at hcell'
      have hx0 : (0 : Int) ≤ (k : Int) := by omega
      have hx1 : (k : Int) < (len : Int) := by omega
      generalize L[k] = s at hcell hcell'
      go_wp2_with fail
      go_quiet (fail)
      go_wp2
      go_roundw
      case rel => exact ⟨k + 1, by go_num, by omega, below_drewN hb _⟩
      case measure => simp [intOf]; omega
    · go_wp2
      go_ret
      exact ⟨rfl, hb⟩
set_option maxRecDepth 100000 in
set_option maxHeartbeats 1000000 in
theorem sameCouples_any (v u : Value) (B B' : Nat) (M : List CoupleI) (hlen : M.length ≤ 1048576) (w : World) (hB : B ≤ w.heap.size) (hB' : B' ≤ w.heap.size) (hs : CoAt w v B M) (hs' : CoAt w u B' M) :
    Calls Tryz.prog 10 #[v, u] w fun e w' => e = .returned (.bool true) ∧ Below w.heap.size w w' := by
  obtain ⟨a, c, rfl, hL, hc⟩ := hs
  obtain ⟨a', c', rfl, _, hc'⟩ := hs'
  have HC := hide hc
  have HC' := hide hc'
  obtain ⟨len, hl⟩ : ∃ n, n = M.length := ⟨_, rfl⟩
  have HL := hide hl
  rw [← hl] at hlen ⊢
  clear hc hc' hL hl
  go_enter Tryz.func10, Tryz.ntmps10
  go_wp2_with fail
  go_loopw [5] (fun i wr => ∃ k : Nat, i = .int .i64 k ∧ k ≤ len ∧ Below w.heap.size w wr) (fun i _ => len - (intOf i).toNat)
  case atStart => exact ⟨0, rfl, Nat.zero_le _, Below.refl _ _⟩
  case round =>
    obtain ⟨k, rfl, hk, hb⟩ := hrel
    by_cases hlt : k < len
    · have hkL : k < M.length := by have := unhide HL; omega
      obtain ⟨b, off, rfl, hbB, c0, c1⟩ := unhide HC k hkL
      obtain ⟨b', off', rfl, hbB', d0, d1⟩ := unhide HC' k hkL
      rw [← hb.cell (p := ⟨b, off + k * 2, none⟩) (by simp; omega)] at c0
      rw [← hb.cell (p := ⟨b, off + k * 2 + 1, none⟩) (by simp; omega)] at c1
      rw [← hb.cell (p := ⟨b', off' + k * 2, none⟩) (by simp; omega)] at d0
      rw [← hb.cell (p := ⟨b', off' + k * 2 + 1, none⟩) (by simp; omega)] at d1
      have hx0 : (0 : Int) ≤ (k : Int) := by omega
      have hx1 : (k : Int) < (len : Int) := by omega
      generalize M[k] = q at c0 c1 d0 d1
      obtain ⟨x0, x1⟩ := q
      simp only at c0 c1 d0 d1
      go_wp2_with fail
      go_quiet (fail)
      go_wp2
      go_roundw
      case rel => exact ⟨k + 1, by go_num, by omega, below_drewN hb _⟩
      case measure => simp [intOf]; omega
    · go_wp2
      go_ret
      exact ⟨rfl, hb⟩
set_option maxRecDepth 100000 in
set_option maxHeartbeats 2000000 in
theorem sameGraph_any (v u : Value) (B B' : Nat) (s : Int) (Q : List EdgeI) (hlen : Q.length ≤ 1048576) (w : World) (hB : B ≤ w.heap.size) (hB' : B' ≤ w.heap.size) (hs : GrAt w v B s Q) (hs' : GrAt w u B' s Q) :
    Calls Tryz.prog 9 #[v, u] w fun e w' => e = .returned (.bool true) ∧ Below w.heap.size w w' := by
  obtain ⟨a, n, c, rfl, hL, hc⟩ := hs
  obtain ⟨a', n', c', rfl, hL', hc'⟩ := hs'
  have HC := hide hc
  have HC' := hide hc'
  obtain ⟨len, hl⟩ : ∃ n, n = Q.length := ⟨_, rfl⟩
  have HL := hide hl
  obtain rfl : n = len := by omega
  obtain rfl : n' = n := by omega
  rw [← hl] at hlen
  clear hc hc' hL hL' hl
  go_enter Tryz.func9, Tryz.ntmps9
  obtain ⟨V, hV⟩ : ∃ W, W = (w.alloc (Obj.cells #[Value.int .i64 s, Value.slice a n' c] 26)).alloc (Obj.cells #[Value.int .i64 s, Value.slice a' n' c'] 26) := ⟨_, rfl⟩
  have b1 : Below w.heap.size w V := by rw [hV]; exact (below_new _ _).alloc (by simp) _
  have m0 : Blk V w.heap.size #[Value.int .i64 s, Value.slice a n' c] 26 := by rw [hV]; exact Blk.new0.alloc
  have m1 : Blk V (w.heap.size + 1) #[Value.int .i64 s, Value.slice a' n' c'] 26 := by rw [hV]; exact Blk.new1
  have hss : (s != s) = false := by simp
  go_wp2_with fail
  rw [← hV]
  clear hV
  go_loopw [5] (fun i wr => ∃ k : Nat, i = .int .i64 k ∧ k ≤ n' ∧ Below V.heap.size V wr) (fun i _ => n' - (intOf i).toNat)
  case atStart => exact ⟨0, rfl, Nat.zero_le _, Below.refl _ _⟩
  case round =>
    obtain ⟨k, rfl, hk, hb⟩ := hrel
    have q0 : wr.cell? ⟨w.heap.size, 1, none⟩ = some (.slice a n' c) := (m0.below hb).cell 1 _ rfl
    have q1 : wr.cell? ⟨w.heap.size + 1, 1, none⟩ = some (.slice a' n' c') := (m1.below hb).cell 1 _ rfl
    by_cases hlt : k < n'
    · have hkL : k < Q.length := by have := unhide HL; omega
      obtain ⟨b, off, rfl, hbB, c0, c1, c2, c3, c4⟩ := unhide HC k hkL
      obtain ⟨b', off', rfl, hbB', d0, d1, d2, d3, d4⟩ := unhide HC' k hkL
      have hbw := b1.trans (hb.mono b1.size)
      rw [← hbw.cell (p := ⟨b, off + k * 5, none⟩) (by simp; omega)] at c0
      rw [← hbw.cell (p := ⟨b', off' + k * 5, none⟩) (by simp; omega)] at d0
      rw [← hbw.cell (p := ⟨b, off + k * 5 + 1, none⟩) (by simp; omega)] at c1
      rw [← hbw.cell (p := ⟨b', off' + k * 5 + 1, none⟩) (by simp; omega)] at d1
      rw [← hbw.cell (p := ⟨b, off + k * 5 + 2, none⟩) (by simp; omega)] at c2
      rw [← hbw.cell (p := ⟨b', off' + k * 5 + 2, none⟩) (by simp; omega)] at d2
      rw [← hbw.cell (p := ⟨b, off + k * 5 + 3, none⟩) (by simp; omega)] at c3
      rw [← hbw.cell (p := ⟨b', off' + k * 5 + 3, none⟩) (by simp; omega)] at d3
      rw [← hbw.cell (p := ⟨b, off + k * 5 + 4, none⟩) (by simp; omega)] at c4
      rw [← hbw.cell (p := ⟨b', off' + k * 5 + 4, none⟩) (by simp; omega)] at d4
      have hx0 : (0 : Int) ≤ (k : Int) := by omega
      have hx1 : (k : Int) < (n' : Int) := by omega
      generalize Q[k] = q at c0 d0 c1 d1 c2 d2 c3 d3 c4 d4
      obtain ⟨x0, x1, x2, x3, x4⟩ := q
      simp only at c0 d0 c1 d1 c2 d2 c3 d3 c4 d4
      clear hbw m0 m1
      go_wp2_with fail
      go_quiet (fail)
      go_wp2
      go_roundw
      case rel => exact ⟨k + 1, by go_num, by omega, below_drewN hb _⟩
      case measure => simp [intOf]; omega
    · have hbw := b1.trans (hb.mono b1.size)
      go_wp2
      go_ret
      exact ⟨rfl, hbw⟩
set_option maxRecDepth 100000 in
set_option maxHeartbeats 2000000 in
theorem sameProof_any (v u : Value) (B B' : Nat) (Y : List Int) (G : List GrpI) (hY : Y.length ≤ 1048576) (hG : G.length ≤ 1048576) (hM : ∀ q ∈ G, q.M.length ≤ 1048576) (w : World) (hB : B ≤ w.heap.size) (hB' : B' ≤ w.heap.size) (hs : PrAt w v B Y G) (hs' : PrAt w u B' Y G) :
    Calls Tryz.prog 11 #[v, u] w fun e w' => e = .returned (.bool true) ∧ Below w.heap.size w w' := by
  obtain ⟨a, n, c, a2, n2, c2, rfl, hy, hg, _⟩ := hs
  obtain ⟨a', n', c', a2', n2', c2', rfl, hy', hg', _⟩ := hs'
  obtain rfl : n = Y.length := hy.1.symm
  obtain rfl : n' = Y.length := hy'.1.symm
  obtain ⟨len, hl⟩ : ∃ n, n = G.length := ⟨_, rfl⟩
  have HL := hide hl
  obtain rfl : n2 = len := by have := hg.1; omega
  obtain rfl : n2' = n2 := by have := hg'.1; omega
  have E1 := hide (fun w1 (hb : Below w.heap.size w w1) => sameInts_any a a' Y.length c c' B B' Y hY w1 (by have := hb.size; omega) (by have := hb.size; omega) (hy.below hb hB) (hy'.below hb hB'))
  have EQ := hide (fun j (hj : j < G.length) x1 x2 y1 y2 w1 (hb : Below w.heap.size w w1) (h1 : IntsAt w x1 G[j].M.length B G[j].M) (h2 : IntsAt w x2 G[j].M.length B' G[j].M) => sameInts_any x1 x2 G[j].M.length y1 y2 B B' G[j].M (hM _ (List.getElem_mem hj)) w1 (by have := hb.size; omega) (by have := hb.size; omega) (h1.below hb hB) (h2.below hb hB'))
  have HC := hide hg.2
  have HC' := hide hg'.2
  rw [← hl] at hG
  clear hy hy' hg hg' hl hM hY
  generalize Y.length = ny at E1
  go_enter Tryz.func11, Tryz.ntmps11
  obtain ⟨V, hV⟩ : ∃ W, W = (w.alloc (Obj.cells #[Value.slice a ny c, Value.slice a2 n2' c2] 31)).alloc (Obj.cells #[Value.slice a' ny c', Value.slice a2' n2' c2'] 31) := ⟨_, rfl⟩
  have b1 : Below w.heap.size w V := by rw [hV]; exact (below_new _ _).alloc (by simp) _
  have m0 : Blk V w.heap.size #[Value.slice a ny c, Value.slice a2 n2' c2] 31 := by rw [hV]; exact Blk.new0.alloc
  have m1 : Blk V (w.heap.size + 1) #[Value.slice a' ny c', Value.slice a2' n2' c2'] 31 := by rw [hV]; exact Blk.new1
  go_wp2_with fail
  rw [← hV]
  clear hV
  refine (unhide E1 V b1).mono ?_
  rintro e w1 ⟨rfl, hb1⟩
  have b2 := b1.trans (hb1.mono b1.size)
  have n0 := m0.below hb1
  have n1 := m1.below hb1
  have q0 : w1.cell? ⟨w.heap.size, 1, none⟩ = some (.slice a2 n2' c2) := n0.cell 1 _ rfl
  have q1 : w1.cell? ⟨w.heap.size + 1, 1, none⟩ = some (.slice a2' n2' c2') := n1.cell 1 _ rfl
  clear m0 m1 hb1 b1
  go_wp2_with fail
  clear q0 q1
  go_loopw [5] (fun i wr => ∃ k : Nat, i = .int .i64 k ∧ k ≤ n2' ∧ Below w1.heap.size w1 wr) (fun i _ => n2' - (intOf i).toNat)
  case atStart => exact ⟨0, rfl, Nat.zero_le _, Below.refl _ _⟩
  case round =>
    obtain ⟨k, rfl, hk, hb⟩ := hrel
    have o0 := n0.below hb
    have o1 := n1.below hb
    have q0 : wr.cell? ⟨w.heap.size, 1, none⟩ = some (.slice a2 n2' c2) := o0.cell 1 _ rfl
    have q1 : wr.cell? ⟨w.heap.size + 1, 1, none⟩ = some (.slice a2' n2' c2') := o1.cell 1 _ rfl
    have hbw := b2.trans (hb.mono b2.size)
    by_cases hlt : k < n2'
    · have hkL : k < G.length := by have := unhide HL; omega
      obtain ⟨b, off, x1, y1, rfl, hbB, d0, d1, h1⟩ := unhide HC k hkL
      obtain ⟨b', off', x2, y2, rfl, hbB', e0, e1, h2⟩ := unhide HC' k hkL
      have EK := hide (fun w1 hb => unhide EQ k hkL x1 x2 y1 y2 w1 hb h1 h2)
      generalize G[k] = q at d0 d1 e0 e1 EK
      clear h1 h2
      have hkn : (k : Int) < (n2' : Int) := by omega
      have hz := hbw.size
      have z0 := o0.lt
      have z1 := o1.lt
      have A0 : ∀ d : Grown wr.heap.size wr, d.w.cell? ⟨w.heap.size, 1, none⟩ = some (.slice (some ⟨b, off, none⟩) n2' c2) := fun d => d.cell z0 q0
      have A1 : ∀ d : Grown wr.heap.size wr, d.w.cell? ⟨w.heap.size + 1, 1, none⟩ = some (.slice (some ⟨b', off', none⟩) n2' c2') := fun d => d.cell z1 q1
      have D0 : ∀ d : Grown wr.heap.size wr, d.w.cell? ⟨b, off + k * 2, none⟩ = some (.slice x1 q.M.length y1) := fun d => d.cell (by omega) ((hbw.cell (p := ⟨b, off + k * 2, none⟩) (by simp; omega)).trans d0)
      have D1 : ∀ d : Grown wr.heap.size wr, d.w.cell? ⟨b, off + k * 2 + 1, none⟩ = some (.int .i64 q.Z) := fun d => d.cell (by omega) ((hbw.cell (p := ⟨b, off + k * 2 + 1, none⟩) (by simp; omega)).trans d1)
      have E0 : ∀ d : Grown wr.heap.size wr, d.w.cell? ⟨b', off' + k * 2, none⟩ = some (.slice x2 q.M.length y2) := fun d => d.cell (by omega) ((hbw.cell (p := ⟨b', off' + k * 2, none⟩) (by simp; omega)).trans e0)
      have E1 : ∀ d : Grown wr.heap.size wr, d.w.cell? ⟨b', off' + k * 2 + 1, none⟩ = some (.int .i64 q.Z) := fun d => d.cell (by omega) ((hbw.cell (p := ⟨b', off' + k * 2 + 1, none⟩) (by simp; omega)).trans e1)
      have EG : Hid (∀ d : Grown wr.heap.size wr, Calls Tryz.prog 30 #[.slice x1 q.M.length y1, .slice x2 q.M.length y2] d.w fun e w' => e = .returned (.bool true) ∧ Below d.w.heap.size d.w w') := fun d => unhide EK d.w (hbw.trans (d.below.mono hbw.size))
      have hqq : (q.Z != q.Z) = false := by simp
      clear d0 d1 e0 e1 EK
      go_wp2_with fail
      refine wp_region_grown wr.heap.size (by kernel_rfl) (by kernel_rfl) ?_
      repeat (go_big_quiet_step (first | (go_at_call 30; exact Calls.grown (Nat.le_refl _) (unhide EG _))))
      refine wpQuiet_nil ?_
      rintro w5 ⟨d5, rfl⟩
      go_wp2_with fail
      exact ⟨⟨k + 1, by go_num, by omega, hb.trans (d5.below.mono hb.size)⟩, by simp [intOf]; omega⟩
    · go_wp2_with fail
      go_ret
      exact ⟨rfl, hbw⟩
end Gr
end Go.Proofs.YthbhdfeafbineaaGreat
