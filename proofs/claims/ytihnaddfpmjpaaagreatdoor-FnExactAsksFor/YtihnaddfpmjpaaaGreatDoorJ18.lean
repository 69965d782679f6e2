/-
 GrStrM, GrParts, GrGroup2, GrAlien, GrGOwn.
-/
import Derived.Test.YtihnaddfpmjpaaaGreatDoorJ13
import Derived.Test.YtihnaddfpmjpaaaGreatDoorJ17
import Derived.Test.YtihnaddfpmjpaaaGreatDoorJ2
namespace Go.Proofs.YtihnaddfpmjpaaaGreatDoor
namespace Gr
open Go.RowKit
def partsF : Nat → ByteArray → List ByteArray
  | 0, t => if 0 < t.size then [t] else []
  | f + 1, t => if 40 < t.size then t.extract 0 40 :: partsF f (t.extract 40 t.size) else if 0 < t.size then [t] else []
def partsT (t : ByteArray) : List ByteArray := partsF t.size t
theorem partsF_enough : ∀ (f g : Nat) (t : ByteArray), t.size ≤ f → t.size ≤ g → partsF f t = partsF g t
  | 0, 0, _, _, _ => rfl
  | 0, g + 1, t, hf, _ => by
    unfold partsF
    rw [if_neg (by omega), if_neg (by omega)]
  | f + 1, 0, t, _, hg => by
    unfold partsF
    rw [if_neg (show ¬ 40 < t.size by omega), if_neg (by omega)]
  | f + 1, g + 1, t, hf, hg => by
    unfold partsF
    split
    · have hs : (t.extract 40 t.size).size ≤ f ∧ (t.extract 40 t.size).size ≤ g := by rw [ByteArray.size_extract]; omega
      rw [partsF_enough f g _ hs.1 hs.2]
    · rfl
theorem parts_more (t : ByteArray) (h : 40 < t.size) : partsT t = t.extract 0 40 :: partsT (t.extract 40 t.size) := by
  have e : (t.extract 40 t.size).size ≤ t.size - 1 := by rw [ByteArray.size_extract]; omega
  have h1 : partsT t = partsF (t.size - 1 + 1) t := by unfold partsT; rw [show t.size - 1 + 1 = t.size by omega]
  rw [h1, partsF, if_pos h, partsF_enough (t.size - 1) (t.extract 40 t.size).size _ e (Nat.le_refl _)]
  rfl
theorem parts_last (t : ByteArray) (h : ¬ 40 < t.size) (h0 : 0 < t.size) : partsT t = [t] := by
  have h1 : partsT t = partsF (t.size - 1 + 1) t := by unfold partsT; rw [show t.size - 1 + 1 = t.size by omega]
  rw [h1, partsF, if_neg h, if_pos h0]
theorem parts_none (t : ByteArray) (h0 : ¬ 0 < t.size) : partsT t = [] := by
  have : t.size = 0 := by omega
  unfold partsT
  rw [this, partsF, if_neg h0]
theorem partsF_length : ∀ (f : Nat) (t : ByteArray), (partsF f t).length ≤ t.size
  | 0, t => by unfold partsF; split <;> simp <;> omega
  | f + 1, t => by
    unfold partsF
    split
    · have := partsF_length f (t.extract 40 t.size)
      rw [ByteArray.size_extract] at this
      rw [List.length_cons]
      omega
    · split <;> simp <;> omega
theorem info_string : (Tryz.prog.info? 9).map (fun i => (i.zero, i.size, i.bytes)) = some (some (.string ⟨#[]⟩), 1, 16) := by kernel_rfl
theorem one_text (x : ByteArray) : ∀ u, u ∈ [Value.string x] → u.oneCell' = true := by
  intro u hu; simp at hu; subst hu; rfl
theorem own_text {w1 : World} {B e : Nat} {v' : Value} {L : List ByteArray} {x : ByteArray} (h : w1.ownsRow B e 1 v' (L.length + 1) (textsV L ++ [.string x])) : w1.ownsRow B e 1 v' (L ++ [x]).length (textsV (L ++ [x])) := by
  simpa [textsV] using h
set_option maxRecDepth 100000 in
set_option maxHeartbeats 2000000 in
theorem specParts_any (x : ByteArray) (hx : x.size ≤ 1048576) (w : World) :
    Calls Tryz.prog 71 #[.string x] w fun e w' => (∃ d, e = .returned d ∧ StOwn w' w.heap.size d (partsT x)) ∧ Below w.heap.size w w' := by
  obtain ⟨i0, hi0, hz0, hz1, hz2⟩ := info_parts info_string
  have HO0 : Hid ((w.alloc (.cells #[] 9)).ownsRow w.heap.size 9 1 (.slice (some ⟨w.heap.size, 0, none⟩) 0 0) 0 (textsV [])) := World.ownsRow_made w #[] 0 (by omega) (Nat.zero_le _) rfl
  have HL : Hid (∀ t : ByteArray, (partsT t).length ≤ t.size) := fun t => partsF_length _ t
  generalize hP : partsT x = P
  have HP : Hid (P = [] ++ partsT x) := by show _ = _; rw [hP]; rfl
  have HPL : Hid (P.length ≤ 1048576) := by show _ ≤ _; rw [← hP]; exact Nat.le_trans (unhide HL x) hx
  clear hP
  go_enter Tryz.func71, Tryz.ntmps71
  go_wp2_with fail
  go_loopw [0, 3] (fun t v wr => ∃ (y : ByteArray) (L : List ByteArray), t = .string y ∧ y.size ≤ 1048576 ∧ Hid (P = L ++ partsT y) ∧ Hid (wr.ownsRow w.heap.size 9 1 v L.length (textsV L)) ∧ Below w.heap.size w wr) (fun t _ _ => match t with | .string y => y.size | _ => 0)
  case atStart => exact ⟨x, [], rfl, hx, unhide HP, unhide HO0, below_new _ _⟩
  case round =>
    obtain ⟨y, L, rfl, hy, HY, HO, hb⟩ := hrel
    have hown := unhide HO
    have hLP : L.length ≤ 1048576 := by have h1 := unhide HPL; rw [unhide HY, List.length_append] at h1; omega
    have hsz : (y.size : Int) ≤ 1048576 := by omega
    by_cases h40 : (40 : Int) < (y.size : Int)
    · have hbs := hb.size
      go_wp2_with (at_builtin; refine wpList_append_own _ rfl _ _ 97 rfl w.heap.size 9 i0 (.string ⟨#[]⟩) 1 16 Tryz.underlying97 hi0 hz0 hz1 hz2 rfl (by decide) _ _ _ rfl (hown.alloc _) ⟨wr.heap.size, 0, none⟩ 1 1 [.string (y.extract 0 40)] rfl rfl (cell_one_new _ _ _) (one_text _) ?c3 ?c4 ?c5 ?_)
      case c3 => unfold maxLen; omega
      case c4 => omega
      case c5 => simp; omega
      intro v' w1 hown' hgrow _
      have hb1 := below_append hb (Nat.le_refl _) hown hgrow
      have hown2 := own_text hown'
      have HO2 := hide hown2
      have HY2 : Hid (P = (L ++ [y.extract 0 40]) ++ partsT (y.extract 40 y.size)) := by
        show _ = _
        rw [unhide HY, parts_more y (by omega), List.append_assoc]
        rfl
      have hzz : (y.extract 40 y.size).size ≤ 1048576 := by rw [ByteArray.size_extract]; omega
      have hzm : (y.extract 40 y.size).size < y.size := by rw [ByteArray.size_extract]; omega
      clear hown hown' hown2 hgrow
      go_wp2_with fail
      exact ⟨⟨_, L ++ [y.extract 0 40], rfl, hzz, unhide HY2, unhide HO2, hb1⟩, hzm⟩
    · have hbs := hb.size
      by_cases h0 : (0 : Int) < (y.size : Int)
      · go_wp2_with (at_builtin; refine wpList_append_own _ rfl _ _ 97 rfl w.heap.size 9 i0 (.string ⟨#[]⟩) 1 16 Tryz.underlying97 hi0 hz0 hz1 hz2 rfl (by decide) _ _ _ rfl (hown.alloc _) ⟨wr.heap.size, 0, none⟩ 1 1 [.string y] rfl rfl (cell_one_new _ _ _) (one_text _) ?d3 ?d4 ?d5 ?_)
        case d3 => unfold maxLen; omega
        case d4 => omega
        case d5 => first | (simp; omega) | omega
        intro v' w1 hown' hgrow _
        have hb1 := below_append hb (Nat.le_refl _) hown hgrow
        have hown2 := own_text hown'
        have hPe : P = L ++ [y] := by rw [unhide HY, parts_last y (by omega) (by omega)]
        have HO2 : Hid (StOwn w1 w.heap.size v' P) := by rw [hPe]; exact hown2
        clear hown hown' hown2 hgrow hPe
        go_wp2_with fail
        go_ret
        exact ⟨⟨_, rfl, unhide HO2⟩, hb1⟩
      · have hPe : P = L := by rw [unhide HY, parts_none y (by omega), List.append_nil]
        have HO2 : Hid (wr.ownsRow w.heap.size 9 1 u3 P.length (textsV P)) := by rw [hPe]; exact hown
        clear hown hPe
        go_wp2_with fail
        go_ret
        exact ⟨⟨_, rfl, unhide HO2⟩, hb⟩
theorem parts_length (t : ByteArray) : (partsT t).length ≤ t.size := partsF_length _ t
def psize (Y : List Int) (G : List GrpI) : Nat := min (Y.length + (G.length + gbulk G)) 9223372036854775807
def Alien (w : World) (k : Nat) (e : TypeId) : Prop := ∃ C t z, w.heap[k]? = some (.cells C t z) ∧ t ≠ e
theorem Blk.alien {w : World} {g : Nat} {C : Array Value} {t : TypeId} (h : Blk w g C t) {e : TypeId} (hne : t ≠ e) : Alien w g e := ⟨C, t, _, h, hne⟩
theorem own_alien {w : World} {B e size n : Nat} {v : Value} {xs : List Value} (h : w.ownsRow B e size v n xs) {e' : TypeId} (hne : e ≠ e') : ∀ k, v.ownBlock = some k → Alien w k e' := by
  intro k hk
  rcases h.2 with ⟨rfl, _⟩ | ⟨g, cap, cur, rfl, _, hg, _⟩
  · simp [Value.ownBlock] at hk
  · have e1 : g = k := Option.some.inj hk
    subst e1
    exact ⟨_, _, _, hg, hne⟩
theorem Kept.own_alien {S : Nat → Prop} {w w' : World} {B e size n : Nat} {v : Value} {xs : List Value} (h : Kept S w w') (ho : w.ownsRow B e size v n xs) (hS : ∀ k, S k → Alien w k e) : w'.ownsRow B e size v n xs := by
  refine h.own ho (fun g hg hs => ?_)
  obtain ⟨C, t, z, h1, h2⟩ := hS g hs
  rcases ho.2 with ⟨rfl, _⟩ | ⟨g', cap, cur, rfl, _, hg', _⟩
  · simp [Value.ownBlock] at hg
  · have e1 : g' = g := Option.some.inj hg
    subst e1
    rw [h1] at hg'
    simp at hg'
    exact h2 hg'.2.1
theorem Blk.kept_alien {S : Nat → Prop} {w w' : World} {g : Nat} {C : Array Value} {t : TypeId} (h : Blk w g C t) (hk : Kept S w w') (hS : ∀ k, S k → Alien w k t) : Blk w' g C t := by
  refine h.kept hk (fun hs => ?_)
  obtain ⟨C', t', z, h1, h2⟩ := hS g hs
  unfold Blk at h
  rw [h1] at h
  simp at h
  exact h2 h.2.1
theorem Kept.over {S : Nat → Prop} {a b c : World} {g : Nat} (h : Kept S a b) (k : Kept (fun i => i = g) b c) (hg : a.heap.size ≤ g := by omega) : Kept S a c :=
  ⟨k.1.trans h.1, k.2.1.trans h.2.1, k.2.2.1.trans h.2.2.1, Nat.le_trans h.2.2.2.1 k.2.2.2.1, fun i hi hn => (k.2.2.2.2 i (Nat.lt_of_lt_of_le hi h.2.2.2.1) (by omega)).trans (h.2.2.2.2 i hi hn)⟩
end Gr
end Go.Proofs.YtihnaddfpmjpaaaGreatDoor
namespace Go.Proofs.YtihnaddfpmjpaaaGreatDoor
namespace Gr
open Go.ChangeShapes Go.WideShapes Go.ChangeAt Go.RowKit
def gC : List Value → List Int → List Value
  | m :: ms, z :: zs => m :: .int .i64 z :: gC ms zs
  | _, _ => []
theorem gC_at : ∀ (ms : List Value) (zs : List Int) (j : Nat) (h1 : j < ms.length) (h2 : j < zs.length), (gC ms zs)[j * 2]? = some ms[j] ∧ (gC ms zs)[j * 2 + 1]? = some (.int .i64 zs[j])
  | [], _, _, h1, _ => by simp at h1
  | m :: ms, [], _, _, h2 => by simp at h2
  | m :: ms, z :: zs, 0, _, _ => ⟨rfl, rfl⟩
  | m :: ms, z :: zs, j + 1, h1, h2 => by
    have := gC_at ms zs j (by simpa using h1) (by simpa using h2)
    simp only [gC, List.getElem_cons_succ]
    rw [show (j + 1) * 2 = j * 2 + 1 + 1 by omega]
    simpa using this
def zsOf (G : List GrpI) : List Int := G.map (·.Z)
theorem zsOf_length (G : List GrpI) : (zsOf G).length = G.length := by simp [zsOf]
theorem zsOf_at (G : List GrpI) (j : Nat) (h : j < (zsOf G).length) (h2 : j < G.length) : (zsOf G)[j] = G[j].Z := by simp [zsOf]
def DistV (vs : List Value) : Prop := ∀ i j (hi : i < vs.length) (hj : j < vs.length) g, vs[i].ownBlock = some g → vs[j].ownBlock = some g → i = j
def GOwn (w : World) (B : Nat) (v : Value) (ms : List Value) (G : List GrpI) : Prop :=
  ms.length = G.length ∧ w.ownsRow B 164 2 v G.length (gC ms (zsOf G)) ∧ ∀ j (h1 : j < ms.length) (h2 : j < G.length), InOwn w B ms[j] G[j].M
theorem GOwn.below {w w' : World} {B : Nat} {v : Value} {ms : List Value} {G : List GrpI} (h : GOwn w B v ms G) (hb : Below w.heap.size w w') : GOwn w' B v ms G :=
  ⟨h.1, own_below h.2.1 hb, fun j h1 h2 => (h.2.2 j h1 h2).below hb⟩
end Gr
end Go.Proofs.YtihnaddfpmjpaaaGreatDoor
