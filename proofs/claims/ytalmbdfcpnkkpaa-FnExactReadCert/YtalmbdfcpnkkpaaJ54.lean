/-
  Texts of this claim, one behind the other: GrCertK.
-/
import Derived.Test.YtalmbdfcpnkkpaaJ36
import Derived.Test.YtalmbdfcpnkkpaaJ29

/-
  Certificates are small.
-/
namespace Go.Proofs.Ytalmbdfcpnkkpaa
namespace Gr
open Go.RowKit

theorem gbulk_le : ∀ (G : List GrpI), (∀ q ∈ G, q.M.length ≤ 9) → gbulk G ≤ 9 * G.length
  | [], _ => by unfold gbulk; simp
  | q :: r, h => by
    have h1 := h q List.mem_cons_self
    have h2 := gbulk_le r (fun x hx => h x (List.mem_cons_of_mem _ hx))
    unfold gbulk
    rw [List.length_cons]
    omega

theorem offQ_all_le (G : List GrpI) (h : ∀ q ∈ G, q.M.length ≤ 9) : offQ G G.length ≤ 10 * G.length := by
  unfold offQ
  rw [List.take_length]
  induction G with
  | nil => simp
  | cons q r ih =>
    have h1 := h q List.mem_cons_self
    have h2 := ih (fun x hx => h x (List.mem_cons_of_mem _ hx))
    simp only [List.map_cons, List.sum_cons, List.length_cons]
    omega

theorem cert_small {s : Int} {Q : List EdgeI} {M : List CoupleI} {Y : List Int} {G : List GrpI} (h : certR s Q M Y G = true) : csize Q M Y G ≤ 1048576 ∧ mkAll 1 Q M Y G ≤ 100000000 := by
  obtain ⟨hY, hQ⟩ := cert_sizes h
  unfold certR at h
  simp only [Bool.and_eq_true] at h
  obtain ⟨hp, hm, _⟩ := h
  obtain ⟨_, _, h9, h8, _, hg⟩ := proof_sound hp
  have hM : M.length ≤ 9 := by
    unfold matchOk at hm
    simp only [Bool.and_eq_true, decide_eq_true_eq] at hm
    exact hm.2.1
  have hq : ∀ q ∈ G, q.M.length ≤ 9 := fun q hq => by
    have := ((grpHead_iff s q).1 (hg q hq)).2.2.1
    omega
  have h1 := gbulk_le G hq
  have h2 := offQ_all_le G hq
  have hY9 : Y.length ≤ 9 := by omega
  unfold csize psize mkAll mkY mkM
  omega

theorem rc_small (t : ByteArray) : csize (rcV t).Q (rcV t).M (rcV t).Y (rcV t).G ≤ 1048576 ∧ mkAll 1 (rcV t).Q (rcV t).M (rcV t).Y (rcV t).G ≤ 100000000 := by
  by_cases h : rcOk t = true
  · exact cert_small (rc_is h).1
  · have e : rcV t = ⟨0, [], [], [], [], ⟨0, false⟩⟩ := by unfold rcV; rw [if_neg h]
    rw [e]
    simp [csize, psize, mkAll, mkY, mkM, gbulk, offQ]
end Gr
end Go.Proofs.Ytalmbdfcpnkkpaa
