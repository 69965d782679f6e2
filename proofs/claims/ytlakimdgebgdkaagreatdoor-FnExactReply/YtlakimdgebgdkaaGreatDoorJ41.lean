/-
  Texts of this claim, one behind the other: Rp1.
-/
import Derived.Test.YtlakimdgebgdkaaGreatDoorJ15
import Derived.Test.YtlakimdgebgdkaaGreatDoorJ39
import Derived.Test.YtlakimdgebgdkaaGreatDoorJ40
import Derived.Test.YtlakimdgebgdkaaGreatDoorJ3
import Derived.Lib.ItoaLen

/-
  What Reply tells; the contract of spec.Reply where a code is told, or the state is not right.
-/
namespace Go.Proofs.YtlakimdgebgdkaaGreatDoor
namespace Rg
open Go.RowKit

def okB : ByteArray := ⟨#[111, 107]⟩
def spB : ByteArray := ⟨#[32]⟩
def failB : ByteArray := ⟨#[102, 97, 105, 108, 32]⟩

/-- What Hex tells. -/
def hexT (t : ByteArray) : ByteArray := if t.size ≤ 8000 then ⟨(Hx.hexB t.data.toList).toArray⟩ else ⟨#[]⟩

/-- Ids with their values. -/
def showF (Q : PL) : ByteArray → List Int → ByteArray
  | s, [] => s
  | s, x :: r => showF Q (((s ++ spB) ++ decB x) ++ oT (getP Q (⟨#[118]⟩ ++ tw x.toNat))) r

/-- What Reply tells. -/
def replyT (Q : PL) (op a code : Int) : ByteArray :=
  if code ≠ 0 then failB ++ decB code
  else if stateOk Q = false then okB
  else if op = 4 then (okB ++ spB) ++ decB ((rnds Q : Int) - 1)
  else if op = 5 then (if roOk Q a = true then (((okB ++ spB) ++ commas (roP Q a)) ++ spB) ++ hexT (Gr.certT (roC Q a).s (roC Q a).Q (roC Q a).M (roC Q a).Y (roC Q a).G) else okB)
  else if op = 6 then showF Q okB (idsP [] Q)
  else okB

theorem decB_short (n : Int) (h0 : -9223372036854775808 ≤ n) (h1 : n ≤ 9223372036854775807) : (decB n).size ≤ 21 := by
  have := Lib.itoa_length_le n h0 h1
  unfold decB
  simpa [ByteArray.size] using this

set_option maxRecDepth 100000 in
set_option maxHeartbeats 1000000 in
theorem reply_fail (v : Value) (x : Gr.AskI) (code : Int) (Q : PL) (hc : code ≠ 0) (h0 : -9223372036854775808 ≤ code) (h1 : code ≤ 9223372036854775807) (w : World) :
    Calls Tryz.prog 5 #[v, x.v, .int .i64 code] w fun e w' => e = .returned (.string (replyT Q x.Op x.A code)) ∧ Below w.heap.size w w' := by
  have hR : replyT Q x.Op x.A code = failB ++ decB code := by unfold replyT; rw [if_pos hc]
  rw [hR]
  clear hR
  have DE := hide (fun w1 => Dc.specDec_any code h0 h1 w1)
  have HDB : Hid ((⟨(Lib.itoa code).toArray⟩ : ByteArray) = decB code) := rfl
  have hds := decB_short code h0 h1
  have ec : (code != 0) = true := by simp; exact hc
  have HF : Hid (failB = ⟨#[102, 97, 105, 108, 32]⟩) := rfl
  have hf5 : (ByteArray.mk #[102, 97, 105, 108, 32]).size = 5 := rfl
  rw [unhide HF]
  obtain ⟨op, x1, x2, x3, x4, x5⟩ := x
  unfold Gr.AskI.v
  simp only
  have HCC := hide hc
  clear hc HF
  go_enter Tryz.func5, Tryz.ntmps5
  go_wp2_with fail
  refine (unhide DE _).mono ?_
  rintro e w2 ⟨rfl, hb2⟩
  rw [unhide HDB]
  have b2 : Below w.heap.size w w2 := (Gr.below_new _ _).trans (hb2.mono (by simp))
  have hcat : ¬ 9223372036854775807 < (ByteArray.mk #[102, 97, 105, 108, 32]).size + (decB code).size := by omega
  clear hb2 DE HDB
  go_wp2_with fail
  go_ret
  exact ⟨rfl, b2⟩

set_option maxRecDepth 100000 in
set_option maxHeartbeats 1000000 in
theorem reply_bad (a : Option Addr) (len cap B : Nat) (Q : PL) (x : Gr.AskI) (hst : stateOk Q = false) (hlen : len ≤ 1048576) (w : World) (hB : B ≤ w.heap.size) (hs : Tr.PairsAt w a len B Q) :
    Calls Tryz.prog 5 #[.slice a len cap, x.v, .int .i64 0] w fun e w' => e = .returned (.string (replyT Q x.Op x.A 0)) ∧ Below w.heap.size w w' := by
  have hR : replyT Q x.Op x.A 0 = ⟨#[111, 107]⟩ := by unfold replyT; rw [if_neg (by simp), if_pos hst]; rfl
  rw [hR]
  have SO := hide (fun w1 (hb : Below w.heap.size w w1) => state_any a len cap B Q hlen w1 (by have := hb.size; omega) (hs.below hb hB))
  rw [hst] at SO
  obtain ⟨op, x1, x2, x3, x4, x5⟩ := x
  unfold Gr.AskI.v
  simp only
  clear hR hst hs
  go_enter Tryz.func5, Tryz.ntmps5
  go_wp2_with fail
  refine (unhide SO _ (Gr.below_new _ _)).mono ?_
  rintro e w2 ⟨rfl, hb2⟩
  have b2 : Below w.heap.size w w2 := (Gr.below_new _ _).trans (hb2.mono (by simp))
  clear hb2
  go_wp2_with fail
  go_ret
  exact ⟨rfl, b2⟩
end Rg
end Go.Proofs.YtlakimdgebgdkaaGreatDoor
