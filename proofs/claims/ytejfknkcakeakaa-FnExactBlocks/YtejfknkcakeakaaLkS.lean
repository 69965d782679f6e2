/-
  impl.OddParts: its contract.
-/
import Derived.Test.YtejfknkcakeakaaLkR
import Derived.Test.YtejfknkcakeakaaLkN
import Derived.Test.YtejfknkcakeakaaLk1
import Derived.Test.YtejfknkcakeakaaGrImplB
namespace Go.Proofs.Ytejfknkcakeakaa
namespace Lk
open Go.RowKit
open Gr (Blk Kept EdgeI GrAt InAt GBox below_new setMany setMany_all below_setCells graphOk implGraph_gen)

/-- The parts of a graph without some vertices, as sets. -/
def partsR (s : Int) (Q : List EdgeI) (K : List Int) : List (Nat → Bool) := prts (lnkF Q) (List.range' 0 9) (leftF s.toNat K)

/-- What OddParts tells. -/
def oddR (s : Int) (Q : List EdgeI) (K : List Int) : Int := if graphOk s Q = true then (oddN (partsR s Q K) : Int) else -1

set_option maxRecDepth 100000 in
set_option maxHeartbeats 4000000 in
theorem implOdd_gen (B : Nat) (v : Value) (s : Int) (Q : List EdgeI) (u : Value) (K : List Int) (h1 : Q.length ≤ 1048576) (h2 : K.length ≤ 1048576) (w : World) (hB : B ≤ w.heap.size) (hv : GrAt w v B s Q) (hu : InAt w u B K) :
    Calls Try.prog 26 #[v, u] w fun e w' => e = .returned (.int .i64 (oddR s Q K)) ∧ Below w.heap.size w w' := by
  have OK := hide (fun w1 (hb : Below w.heap.size w w1) => implGraph_gen B v s Q h1 w1 (by have := hb.size; omega) (hv.below hb hB))
  have LI := hide (fun (hg : graphOk s Q = true) w1 (hb : Below w.heap.size w w1) => links_any B v s Q h1 (apart_of hg).1 w1 (by have := hb.size; omega) (hv.below hb hB))
  have LO := hide (fun n (hn : n ≤ 9) w1 (hb : Below w.heap.size w w1) => leftOf_any n hn u B K h2 w1 (by have := hb.size; omega) (hu.below hb hB))
  have OP := hide (fun f T W hW => oddParts_any (lnkF Q) f T W hW)
  have HR : Hid (graphOk s Q = true → 0 ≤ s ∧ s ≤ 9 ∧ oddR s Q K = (oddN (prts (lnkF Q) (List.range' 0 9) (leftF s.toNat K)) : Int)) := fun h => by
    obtain ⟨s0, s9⟩ := ok_size h
    exact ⟨s0, s9, by unfold oddR partsR; rw [if_pos h]⟩
  have HR0 : Hid (graphOk s Q = false → oddR s Q K = -1) := fun h => by unfold oddR; rw [h]; rfl
  obtain ⟨a, n, c, rfl, _⟩ := hv
  obtain ⟨au, cu, rfl, _⟩ := hu
  have hi2 := hide (infoTF (lnkF Q))
  have h1C := hide (tb_one (lnkF Q))
  have HCS := hide (tb_size (lnkF Q))
  have hzv := zero_tb
  have HZ : Hid (Array.size (tb fun _ _ => false) = 81) := tb_size _
  generalize (tb fun _ _ => false) = Z at hzv HZ
  generalize oddR s Q K = V at HR HR0 ⊢
  generalize graphOk s Q = gk at OK LI HR HR0
  clear h1 h2
  go_enter Try.func26, Try.ntmps26
  go_wp2_with fail
  obtain ⟨V1, hV1⟩ : ∃ W, W = w.alloc (Obj.cells #[Value.int .i64 s, Value.slice a n c] 30) := ⟨_, rfl⟩
  rw [← hV1]
  have x1 : GBox V1 w.heap.size s (.slice a n c) := by rw [hV1]; exact GBox.new _ _ _
  have b1 : Below w.heap.size w V1 := by rw [hV1]; exact below_new _ _
  clear hV1
  refine (unhide OK V1 b1).mono ?_
  rintro e w2 ⟨rfl, hb2⟩
  have x2 := x1.below hb2
  have b2 := b1.trans (hb2.mono b1.size)
  obtain ⟨p0, p1⟩ := x2.cells
  clear hb2 x1 OK b1
  cases gk
  · have hR := unhide HR0 rfl
    subst hR
    go_wp2
    go_ret
    exact ⟨rfl, b2⟩
  · obtain ⟨s0, s9, hR⟩ := unhide HR rfl
    obtain ⟨N, rfl⟩ := Int.eq_ofNat_of_zero_le s0
    have hN9 : N ≤ 9 := by omega
    rw [Int.toNat_natCast] at hR
    subst hR
    have LI2 := hide (unhide LI rfl)
    clear HR HR0 LI
    go_wp2_with fail
    refine (unhide LI2 w2 b2).mono ?_
    rintro e w3 ⟨rfl, hb3⟩
    have x3 := x2.below hb3
    have b3 := b2.trans (hb3.mono b2.size)
    have z3 := x3.lt
    obtain ⟨C, hC⟩ : ∃ C, C = tb (lnkF Q) := ⟨_, rfl⟩
    rw [← hC] at hi2 h1C HCS ⊢
    have HCE := hide hC
    obtain ⟨V3, hV3⟩ : ∃ W, W = w3.alloc (Obj.cells Z 65) := ⟨_, rfl⟩
    have HB3 : Hid (Blk V3 w3.heap.size Z 65) := by show Blk _ _ _ _; rw [hV3]; exact Gr.Blk.new0
    have t3 : Hid (V3.there w3.heap.size 0 C.size) := (unhide HB3).there 0 _ (by rw [unhide HZ, unhide HCS]; omega)
    obtain ⟨V4, hV4⟩ : ∃ W, W = V3.setCells w3.heap.size 0 C.toList := ⟨_, rfl⟩
    have HC4 : Hid (Blk V4 w3.heap.size (tb (lnkF Q)) 65) := by
      have h := Gr.Blk.many C.toList 0 (unhide HB3)
      rw [setMany_all _ _ (by rw [unhide HZ, unhide HCS])] at h
      rw [hV4, ← unhide HCE]
      exact h
    have b34 : Below w3.heap.size w3 V4 := by rw [hV4, hV3]; exact below_setCells _ _ (Nat.le_refl _) _ _ _ _ (below_new _ _)
    have b4 := b3.trans (b34.mono b3.size)
    have x4 := x3.below b34
    obtain ⟨q0, q1⟩ := x4.cells
    rw [hV3] at t3 hV4
    rw [hV4] at q0 q1
    clear hb3 HB3 hV3 p0 p1 x2 x3 x4 hC
    go_wp2_with (first
      | refine wpList_store_mid rfl 65 _ _ rfl w3.heap.size 0 C rfl rfl (unhide t3) (unhide hi2) (unhide h1C) ?_)
    rw [← hV4]
    clear hV4 t3 q0 q1
    refine (unhide LO N hN9 V4 b4).mono ?_
    rintro e w5 ⟨rfl, hb5⟩
    have b5 := b4.trans (hb5.mono b4.size)
    have OPW := hide (unhide OP (leftF N K) w3.heap.size w5 ((unhide HC4).below hb5))
    clear hb5
    go_wp2_with fail
    refine (unhide OPW).mono ?_
    rintro e w6 ⟨rfl, hb6⟩
    have b6 := b5.trans (hb6.mono b5.size)
    go_wp2
    go_ret
    exact ⟨rfl, b6⟩

end Lk
end Go.Proofs.Ytejfknkcakeakaa
