/-
  Texts of this claim, one behind the other: DevReadImpl.
-/
import Derived.Test.YtjhnippfepbjmaaGreatDoorJ6
import Derived.Test.YtjhnippfepbjmaaGreatDoorJ18

/-
  The contract of impl.ReadSector.
-/
namespace Go.Proofs.YtjhnippfepbjmaaGreatDoor
open Go.RowKit

theorem devOk_sec {L : List ByteArray} {Q : List (Int × ByteArray)} (h : devOk L Q = true) : L.length ≤ 400 ∧ Q.length ≤ 400 ∧ 1 ≤ L.length ∧ (∀ s ∈ L, s.size ≤ 64) ∧ ∀ q ∈ Q, 0 ≤ q.1 ∧ q.1 < (L.length : Int) ∧ q.2.size ≤ 64 := by
  unfold devOk at h
  simp only [Bool.and_eq_true, decide_eq_true_eq, List.all_eq_true] at h
  obtain ⟨⟨h1, h2⟩, h3, h4, h5⟩ := h
  refine ⟨by omega, by omega, by omega, fun s hs => ?_, fun q hq => ?_⟩
  · have := h4 s hs
    simp [secOk] at this
    omega
  · have := h5 q hq
    simp [putOk2, putOk] at this
    omega

theorem lastOf_size {k : Nat} {s : ByteArray} {Q : List (Int × ByteArray)} (hs : s.size ≤ 64) (hQ : ∀ q ∈ Q, q.2.size ≤ 64) : (lastOf k s Q).size ≤ 64 := by
  induction Q generalizing s with
  | nil => exact hs
  | cons q Q ih =>
    have e : lastOf k s (q :: Q) = lastOf k (if q.1 = (k : Int) then q.2 else s) Q := rfl
    rw [e]
    refine ih ?_ (fun r hr => hQ r (List.mem_cons_of_mem _ hr))
    split
    · exact hQ q List.mem_cons_self
    · exact hs

set_option maxRecDepth 100000 in
set_option maxHeartbeats 2000000 in
theorem implSector_any (v : Value) (B : Nat) (x : Int) (L : List ByteArray) (Q : List (Int × ByteArray)) (h1 : L.length ≤ 1048576) (h2 : Q.length ≤ 1048576) (hm : ∀ s ∈ L, s.size ≤ 9223372036854775807) (w : World) (hB : B ≤ w.heap.size) (hv : DevAt w v B L Q) :
    Calls Tryz.prog 156 #[v, .int .i64 x] w fun e w' => e = .returned (.tuple #[.string (readDv L Q x).1, .bool (readDv L Q x).2]) ∧ Below w.heap.size w w' := by
  have OK := hide (fun w1 (hb : Below w.heap.size w w1) => implDev_any v B L Q h1 h2 hm w1 (by have := hb.size; omega) (hv.below hb hB))
  have IN := hide (fun w => isPlace_any x (L.length : Int) w)
  obtain ⟨a, n, c, a', n', c', rfl, hL, hQ⟩ := hv
  obtain rfl : n = L.length := hL.1.symm
  have HR : Hid (readDv L Q x = if devOk L Q = true ∧ 0 ≤ x ∧ x < (L.length : Int) then (lastOf x.toNat (L.getD x.toNat ⟨#[]⟩) Q, true) else (⟨#[]⟩, false)) := rfl
  generalize readDv L Q x = r at HR
  have HDS := hide (@devOk_sec L Q)
  cases hok : devOk L Q
  · rw [hok] at OK HR
    have e : r = (⟨#[]⟩, false) := by have := unhide HR; simpa using this
    subst e
    clear hok HR hL hQ
    go_enter Tryz.func156, Tryz.ntmps156
    go_wp2_with fail
    have hb1 := below_new w (Obj.cells #[Value.slice a L.length c, Value.slice a' n' c'] 36)
    refine (unhide OK _ hb1).mono ?_
    rintro e w2 ⟨rfl, hb2⟩
    have hc := hb1.trans (hb2.mono hb1.size)
    clear hb1 hb2
    go_wp2
    go_ret2
    exact ⟨rfl, hc⟩
  · have hds := unhide HDS hok
    rw [hok] at OK HR
    clear hok HDS
    by_cases hin : 0 ≤ x ∧ x < (L.length : Int)
    · obtain ⟨k, rfl⟩ := Int.eq_ofNat_of_zero_le hin.1
      have hkL : k < L.length := by omega
      have e : r = (lastOf k L[k] Q, true) := by
        have h := unhide HR
        rw [if_pos ⟨rfl, hin.1, hin.2⟩] at h
        rw [h]
        simp [hkL]
      subst e
      have hdec : (decide ((0 : Int) ≤ (k : Int)) && decide ((k : Int) < (L.length : Int))) = true := by simp; omega
      rw [hdec] at IN
      obtain ⟨e1, hLc⟩ := hL
      obtain ⟨e2, hQc⟩ := hQ
      obtain ⟨b, off, rfl, hbB, hcell⟩ := hLc k hkL
      have hs0 := hds.2.2.2.1 _ (List.getElem_mem hkL)
      have HCL := hide (fun w => clone_txt (lastOf k L[k] Q) (by have := lastOf_size (k := k) hs0 (fun q hq => (hds.2.2.2.2 q hq).2.2); omega) w)
      generalize L[k] = s0 at hcell HCL
      have HQC := hide hQc
      have HN' := hide e2
      have hn' : n' ≤ 400 := by have := hds.2.1; omega
      have hx0 : (0 : Int) ≤ (k : Int) := by omega
      have hx1 : (k : Int) < (L.length : Int) := by omega
      have hnL : L.length ≤ 400 := hds.1
      generalize L.length = n at hx1 IN OK hnL
      clear HR hdec hQc hLc e1 e2 hds hin hs0 hkL hm h1 h2
      go_enter Tryz.func156, Tryz.ntmps156
      go_wp2_with fail
      obtain ⟨W1, hW1⟩ : ∃ W, W = w.alloc (Obj.cells #[Value.slice (some ⟨b, off, none⟩) n c, Value.slice a' n' c'] 36) := ⟨_, rfl⟩
      rw [← hW1]
      have hb1 : Below w.heap.size w W1 := by rw [hW1]; exact below_new _ _
      have hx : Box W1 w.heap.size (Value.slice (some ⟨b, off, none⟩) n c) (Value.slice a' n' c') := by rw [hW1]; exact Box.new _ _ _
      clear hW1
      refine (unhide OK W1 hb1).mono ?_
      rintro e w2 ⟨rfl, hb2⟩
      obtain ⟨p0, p1⟩ := (hx.below hb2).cells
      have hc := hb1.trans (hb2.mono hb1.size)
      rw [← hc.cell (p := ⟨b, off + k, none⟩) (by simp; omega)] at hcell
      clear hb1 hb2 hx
      go_wp2_with fail
      refine (unhide IN _).mono ?_
      rintro e w3 ⟨rfl, rfl⟩
      go_wp2_with fail
      go_loopw [6, 28] (fun t i wr => ∃ j : Nat, i = .int .i64 j ∧ j ≤ n' ∧ t = .string (lastOf k s0 (Q.take j)) ∧ Below w3.heap.size w3 wr) (fun _ i _ => n' - (intOf i).toNat)
      case atStart => exact ⟨0, rfl, Nat.zero_le _, rfl, Below.refl _ _⟩
      case round =>
        obtain ⟨j, rfl, hj, rfl, hbw⟩ := hrel
        have hbw0 : Below w.heap.size w wr := hc.trans (hbw.mono hc.size)
        by_cases hltj : j < n'
        · have hjQ : j < Q.length := by have := unhide HN'; omega
          obtain ⟨b', off', rfl, hbB', hc0, hc1⟩ := unhide HQC j hjQ
          rw [← hbw0.cell (p := ⟨b', off' + j * 2, none⟩) (by simp; omega)] at hc0
          rw [← hbw0.cell (p := ⟨b', off' + j * 2 + 1, none⟩) (by simp; omega)] at hc1
          have HS := hide (lastOf_snoc k s0 Q j hjQ)
          have hy0 : (0 : Int) ≤ (j : Int) := by omega
          have hy1 : (j : Int) < (n' : Int) := by omega
          generalize Q[j] = q at hc0 hc1 HS
          obtain ⟨x, t⟩ := q
          simp only at hc0 hc1 HS
          generalize lastOf k s0 (Q.take j) = u at HS
          have hbe := hbw.trans ((below_new wr (Obj.cells #[Value.int .i64 x, Value.string t] 121)).mono hbw.size)
          by_cases he : x = (k : Int)
          · have hb : (x == (k : Int)) = true := by simp [he]
            have E : Hid (lastOf k s0 (Q.take (j + 1)) = t) := by
              show _ = _
              rw [unhide HS]; simp [he]
            clear he
            go_wp2
            go_roundw
            case rel => exact ⟨j + 1, by go_num, by omega, by rw [unhide E], hbe⟩
            case measure => simp [intOf]; omega
          · have hb : (x == (k : Int)) = false := by simp [he]
            have E : Hid (lastOf k s0 (Q.take (j + 1)) = u) := by
              show _ = _
              rw [unhide HS]; simp [he]
            clear he
            go_wp2
            go_roundw
            case rel => exact ⟨j + 1, by go_num, by omega, by rw [unhide E], hbe⟩
            case measure => simp [intOf]; omega
        · have E : Hid (lastOf k s0 (Q.take j) = lastOf k s0 Q) := by
            show _ = _
            rw [List.take_of_length_le (by have := unhide HN'; omega)]
          generalize lastOf k s0 (Q.take j) = u at E
          rw [← unhide E] at HCL
          go_wp2_with fail
          refine (unhide HCL _).mono ?_
          rintro e w4 ⟨rfl, hb4⟩
          have hc4 := hbw0.trans (hb4.mono hbw0.size)
          clear hb4
          go_wp2
          go_ret2
          exact ⟨by rw [← unhide E]; rfl, hc4⟩
    · have e : r = (⟨#[]⟩, false) := by
        have h := unhide HR
        rw [if_neg (fun hh => hin hh.2)] at h
        exact h
      subst e
      have hdec : (decide ((0 : Int) ≤ x) && decide (x < (L.length : Int))) = false := by simp; omega
      rw [hdec] at IN
      have hnL : L.length ≤ 400 := hds.1
      generalize L.length = n at IN OK hnL
      clear HR hdec hL hQ hds hm h1 h2 hin
      go_enter Tryz.func156, Tryz.ntmps156
      go_wp2_with fail
      obtain ⟨W1, hW1⟩ : ∃ W, W = w.alloc (Obj.cells #[Value.slice a n c, Value.slice a' n' c'] 36) := ⟨_, rfl⟩
      rw [← hW1]
      have hb1 : Below w.heap.size w W1 := by rw [hW1]; exact below_new _ _
      have hx : Box W1 w.heap.size (Value.slice a n c) (Value.slice a' n' c') := by rw [hW1]; exact Box.new _ _ _
      clear hW1
      refine (unhide OK W1 hb1).mono ?_
      rintro e w2 ⟨rfl, hb2⟩
      obtain ⟨p0, p1⟩ := (hx.below hb2).cells
      have hc := hb1.trans (hb2.mono hb1.size)
      clear hb1 hb2 hx
      go_wp2_with fail
      refine (unhide IN _).mono ?_
      rintro e w3 ⟨rfl, rfl⟩
      go_wp2
      go_ret2
      exact ⟨rfl, hc⟩
end Go.Proofs.YtjhnippfepbjmaaGreatDoor
