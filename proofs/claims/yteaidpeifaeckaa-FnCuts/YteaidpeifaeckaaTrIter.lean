/-
  The groups of a list, told by impl.groupsOf's function one behind the other: its contract.
-/
import Derived.RangeFuncNested
import Derived.RangeFuncBound
import Derived.RangeFuncCalls
import Derived.RangeFuncLeaves
import Derived.Shelf.Abstract
import Derived.Shelf.RegionOpen
import Derived.WalkKit
import Derived.OwnWalkIn
import Derived.TacticsInMore
import Derived.LoopNIn
import Derived.LoopIn
import Derived.Test.YteaidpeifaeckaaTrFirst
import Derived.Test.YteaidpeifaeckaaTrCopy
namespace Go.Proofs.Yteaidpeifaeckaa
namespace Tr
open Go.RowKit Go.Shelf
open Go.Proofs.Yteaidpeifaeckaa.Pg

theorem items_take {w : World} {a : Option Addr} {len B : Nat} {Q : List It} (h : ItemsAt w a len B Q) (f : Nat) (hf : f ≤ len) : ItemsAt w a f B (Q.take f) := by
  refine ⟨by rw [List.length_take, h.1]; omega, fun j hj => ?_⟩
  have hjf : j < f := by rw [List.length_take] at hj; omega
  have hjQ : j < Q.length := by have := h.1; omega
  have e : (Q.take f)[j] = Q[j] := List.getElem_take
  rw [e]
  exact h.2 j hjQ

theorem items_drop {w : World} {b off len B : Nat} {Q : List It} (h : ItemsAt w (some ⟨b, off, none⟩) len B Q) (f : Nat) : ItemsAt w (some ⟨b, off + f * 3, none⟩) (len - f) B (Q.drop f) := by
  refine ⟨by rw [List.length_drop, h.1], fun j hj => ?_⟩
  rw [List.length_drop] at hj
  have hjQ : f + j < Q.length := by omega
  have e : (Q.drop f)[j]'(by rw [List.length_drop]; exact hj) = Q[f + j] := List.getElem_drop
  rw [e]
  obtain ⟨b', off', e', hb', g0, g1, g2⟩ := h.2 (f + j) hjQ
  simp at e'
  obtain ⟨rfl, rfl⟩ := e'
  have e3 : off + f * 3 + j * 3 = off + (f + j) * 3 := by omega
  refine ⟨b, _, rfl, hb', ?_, ?_, ?_⟩
  · rw [e3]; exact g0
  · rw [e3]; exact g1
  · rw [e3]; exact g2

theorem items_none {w : World} {a : Option Addr} {B : Nat} : ItemsAt w a 0 B [] := ⟨rfl, fun j hj => by simp at hj⟩

/-- A piece of a list that lies in memory. -/
abbrev GrpA (w0 : World) (n₀ : Nat) : Type := { p : Option Addr × List It // ItemsAt w0 p.1 p.2.length n₀ p.2 ∧ p.2.length ≤ 1048576 ∧ ∀ x ∈ p.2, x.key.size ≤ 1048576 ∧ x.val.size ≤ 1048576 }

def grpV {w0 : World} {n₀ : Nat} (x : GrpA w0 n₀) : Array Value := #[.slice x.1.1 x.1.2.length x.1.2.length]

/-- What a round keeps: what lay below n₀, and the variable that holds the kind. -/
def KpG (n₀ Bk : Nat) (k : Int) (W W' : World) : Prop := Below n₀ W W' ∧ (W.cell? ⟨Bk, 0, none⟩ = some (.int .i64 k) → W'.cell? ⟨Bk, 0, none⟩ = some (.int .i64 k))

def lenV : Value → Nat
  | .slice _ n _ => n
  | _ => 0

theorem grown_of_below {w w' : World} (h : Below w.heap.size w w') : w.grownBy w' none := ⟨h.os, h.tape, h.output, h.size, fun k hk _ => h.block k hk⟩

set_option maxRecDepth 100000 in
set_option maxHeartbeats 2000000 in
theorem groups1_in (m : Nat) (hm : 1 ≤ m) (l Bl Bk n₀ : Nat) (k : Int) (a : Option Addr) (len cap : Nat) (Q : List It) (w0 : World) (hlen : len ≤ 1048576) (hcap : len ≤ cap) (hsm : ∀ x ∈ Q, x.key.size ≤ 1048576 ∧ x.val.size ≤ 1048576) (hat : ItemsAt w0 a len n₀ Q)
    (J Jx : List (GrpA w0 n₀) → World → Prop) (W : World) (hJ : AbidesFrom W.heap.size J)
    (hY : ∀ pre x W1, J pre W1 → pre.length < len → YieldAt Fence.wide (m - 1) Try.prog l (grpV x) W1 fun e W' =>
      (e = .returned (.bool true) ∧ J (pre ++ [x]) W' ∧ KpG n₀ Bk k W1 W') ∨ (e = .returned (.bool false) ∧ Jx (pre ++ [x]) W'))
    (hn0 : n₀ ≤ W.heap.size) (hW : Below n₀ w0 W) (hBl : W.cell? ⟨Bl, 0, none⟩ = some (.slice a len cap)) (hBk : W.cell? ⟨Bk, 0, none⟩ = some (.int .i64 k)) (h0 : J [] W) :
    CallsIn Fence.wide m Try.prog 22 #[.func (.yield l) #[] #[], .pointer (some ⟨Bl, 0, none⟩), .pointer (some ⟨Bk, 0, none⟩)] W fun e W' => (∃ v, e = .returned v) ∧
      ((∃ ys : List (GrpA w0 n₀), ys.map (fun x => x.1.2) = cutG k Q ∧ J ys W') ∨ (∃ pre, True ∧ Jx pre W')) := by
  have HAT := hide hat
  have HSM := hide hsm
  have HJ := hide hJ
  have HY := hide hY
  have HQL := hide hat.1
  clear hat hsm hJ hY
  refine callsIn_of_wp Try.func22 rfl trivial ?_ rfl
  simp only [Try.ntmps22, List.size_toArray, List.length_cons, List.length_nil, Nat.reduceAdd, Nat.reduceSub, Array.replicate_succ, Array.replicate_zero, List.push_toArray, List.append_toArray, List.nil_append, List.cons_append]
  gi_wp2
  gi_loopw [4] (fun rest wr => ∃ (pre : List (GrpA w0 n₀)) (i r : Nat) (ra : Option Addr) (rc : Nat), rest = .slice ra r rc ∧ r ≤ rc ∧ i + r = len ∧ Hid (ItemsAt w0 ra r n₀ (Q.drop i)) ∧ Hid (pre.map (fun x => x.1.2) ++ cutG k (Q.drop i) = cutG k Q) ∧ pre.length ≤ i ∧ Hid (J pre wr) ∧ Below n₀ W wr ∧ wr.cell? ⟨Bk, 0, none⟩ = some (.int .i64 k))
    (fun rest _ => lenV rest)
  case atStart => exact ⟨[], 0, len, a, cap, rfl, hcap, by omega, unhide HAT, rfl, Nat.le_refl _, h0, Below.refl _ _, hBk⟩
  case round =>
    obtain ⟨pre, i, r, ra, rc, rfl, hrc, hir, HI, HCUT, hpl, HJS, hb, hck⟩ := hrel
    by_cases hlt : 0 < r
    · have hiQ : i < Q.length := by have := unhide HQL; omega
      have hbW : Below n₀ w0 wr := hW.trans hb
      have hi0 := unhide HI
      obtain ⟨b, off, rfl, hbn, _⟩ := hi0.2 0 (by rw [List.length_drop]; omega)
      have HSD : Hid (∀ x ∈ Q.drop i, x.key.size ≤ 1048576 ∧ x.val.size ≤ 1048576) := fun x hx => unhide HSM x (List.mem_of_mem_drop hx)
      have HFG := hide (firstGroup_any k (some ⟨b, off, none⟩) r rc n₀ (Q.drop i) (by omega) hlt (unhide HSD) wr (Nat.le_trans hn0 hb.size) (hi0.below hbW (Nat.le_refl _)))
      have hx0 : (0 : Int) < (r : Int) := by omega
      have hbkl := World.block_lt_of_cell? _ _ hck
      clear hi0
      gi_wp2_with (first | (refine ⟨trivial, ?_⟩; gi_at_call 23; refine (callsIn_wide.2 (unhide HFG)).mono ?_; rintro e W2 ⟨⟨f, rfl, hf0, hf1, hfc⟩, hb2⟩) | (gi_at_call 23; refine (callsIn_wide.2 (unhide HFG)).mono ?_; rintro e W2 ⟨⟨f, rfl, hf0, hf1, hfc⟩, hb2⟩))
      have HJ2 := hide (unhide HJ pre wr W2 none (unhide HJS) (grown_of_below hb2) (fun r e => by cases e))
      have hb2' := hb.trans (hb2.mono (Nat.le_trans hn0 hb.size))
      have hck2 := (hb2.cell (p := ⟨Bk, 0, none⟩) hbkl).trans hck
      have HLX : Hid (((Q.drop i).take f).length = f) := by show _ = _; rw [List.length_take, List.length_drop]; have := unhide HQL; omega
      have HX : Hid (∃ x : GrpA w0 n₀, x.1 = (some ⟨b, off, none⟩, (Q.drop i).take f)) :=
        ⟨⟨(some ⟨b, off, none⟩, (Q.drop i).take f), by rw [unhide HLX]; exact items_take (unhide HI) f hf1, by rw [unhide HLX]; omega, fun x hx => unhide HSD x (List.mem_of_mem_take hx)⟩, rfl⟩
      obtain ⟨x, hx⟩ := unhide HX
      obtain ⟨fn, tmps, assign, body, hy, hR⟩ := unhide HY pre x W2 (unhide HJ2) (by omega)
      have hgv : grpV x = #[.slice (some ⟨b, off, none⟩) f f] := by unfold grpV; rw [hx]; simp only [unhide HLX]
      rw [hgv] at hy
      have HXE := hide hx
      have HFC := hide hfc
      have HR := hide hR
      clear hx hgv hfc hR hb2 hb hck HFG HJ2
      rw [hy]
      gi_wp2
      refine (unhide HR).mono ?_
      rintro e W3 (⟨rfl, hJ3, hk3⟩ | ⟨rfl, hJx3⟩)
      · have HJ3 := hide hJ3
        have hb3 := hb2'.trans hk3.1
        have hck3 := hk3.2 hck2
        have HC3 : Hid ((pre ++ [x]).map (fun x => x.1.2) ++ cutG k (Q.drop (i + f)) = cutG k Q) := by
          show _ = _
          rw [← unhide HCUT, unhide HFC, List.drop_drop, List.map_append]
          simp [unhide HXE]
        have HI3 : Hid (ItemsAt w0 (some ⟨b, off + f * 3, none⟩) (r - f) n₀ (Q.drop (i + f))) := by
          have h := items_drop (unhide HI) f
          rw [List.drop_drop] at h
          exact h
        have hfi1 : (f : Int) ≤ (r : Int) := by omega
        have hfi0 : (0 : Int) ≤ (f : Int) := by omega
        clear hJ3 hk3 hy
        by_cases hrf : rc = f
        · have hr0 : r - f = 0 := by omega
          have HI4 : Hid (ItemsAt w0 (some ⟨b, off, none⟩) (r - f) n₀ (Q.drop (i + f))) := by
            show ItemsAt _ _ _ _ _
            have e : Q.drop (i + f) = [] := List.drop_eq_nil_iff.2 (by have := unhide HQL; omega)
            rw [hr0, e]
            exact items_none
          clear hr0
          gi_wp2
          go_roundw
          case rel => exact ⟨pre ++ [x], i + f, r - f, _, _, rfl, by omega, by omega, unhide HI4, unhide HC3, by simp; omega, unhide HJ3, hb3, hck3⟩
          case measure => simp [lenV]; omega
        · gi_wp2
          go_roundw
          case rel => exact ⟨pre ++ [x], i + f, r - f, _, _, rfl, by omega, by omega, unhide HI3, unhide HC3, by simp; omega, unhide HJ3, hb3, hck3⟩
          case measure => simp [lenV]; omega
      · gi_wp2
        refine bodyPost_ret (results_none rfl _ _ _) rfl ?_
        exact ⟨⟨_, rfl⟩, .inr ⟨_, trivial, hJx3⟩⟩
    · have hx0 : ¬ (0 : Int) < (r : Int) := by omega
      have HC3 : Hid (pre.map (fun x => x.1.2) = cutG k Q) := by
        show _ = _
        rw [← unhide HCUT, List.drop_eq_nil_iff.2 (by have := unhide HQL; omega)]
        show _ = _ ++ cutFrom k [] 0 []
        rw [cutFrom_end0, List.append_nil]
      gi_wp2
      go_end0
      exact ⟨⟨_, rfl⟩, .inl ⟨pre, unhide HC3, unhide HJS⟩⟩
end Tr
end Go.Proofs.Yteaidpeifaeckaa
