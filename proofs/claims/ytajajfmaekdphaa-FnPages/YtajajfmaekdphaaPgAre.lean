/-
  The contracts of the program's kinds of pages and of impl.areItemsOf.
-/
import Derived.Test.YtajajfmaekdphaaPgEq
namespace Go.Proofs.Ytajajfmaekdphaa
open Go.RowKit

theorem leafRight_any (x : It) (w : World) :
    Calls Try.prog 98 #[.agg #[], itV x] w fun e w' => e = .returned (.bool (restOk 1 x)) ∧ Below w.heap.size w w' := by
  obtain ⟨a, b, p⟩ := x
  simp only [itV, restOk, if_true]
  go_enter Try.func98, Try.ntmps98
  go_wp2
  go_ret
  exact ⟨rfl, ((Below.refl _ _).alloc (Nat.le_refl _) _).alloc (by simp) _⟩

theorem empty_iff (b : ByteArray) : b.toList.isEmpty = (b.size == 0) := by
  rw [ByteArray.toList_eq]
  cases b with | mk d => cases d with | mk l => cases l <;> rfl

set_option maxRecDepth 100000 in
theorem innerRight_any (x : It) (w : World) :
    Calls Try.prog 101 #[.agg #[], itV x] w fun e w' => e = .returned (.bool (restOk 2 x)) ∧ Below w.heap.size w w' := by
  obtain ⟨a, b, p⟩ := x
  have e0 : restOk 2 ⟨a, b, p⟩ = (b.toList.isEmpty && (decide (0 ≤ p) && decide (p < 400))) := by
    unfold restOk
    rw [if_neg (by omega), empty_iff]
  rw [e0]
  simp only [itV]
  have HP := hide (fun w => isPlace_any p 400 w)
  generalize (decide (0 ≤ p) && decide (p < 400)) = q at HP
  cases hb : b.toList.isEmpty
  · go_enter Try.func101, Try.ntmps101
    go_wp2
    go_ret
    exact ⟨rfl, ((Below.refl _ _).alloc (Nat.le_refl _) _).alloc (by simp) _⟩
  · go_enter Try.func101, Try.ntmps101
    go_wp2_with fail
    refine (unhide HP _).mono ?_
    rintro e w1 ⟨rfl, rfl⟩
    go_wp2
    go_ret
    exact ⟨by simp, ((Below.refl _ _).alloc (Nat.le_refl _) _).alloc (by simp) _⟩

theorem meth_leafRight (w : World) : (method 226 87 (.agg #[]) "loop.example/g00105/impl.hasRightRest").run Try.prog w = .ok (98, .agg #[]) w := by kernel_rfl
theorem meth_innerRight (w : World) : (method 226 88 (.agg #[]) "loop.example/g00105/impl.hasRightRest").run Try.prog w = .ok (101, .agg #[]) w := by kernel_rfl

theorem not_ok_at {k : Int} {Q : List It} {j : Nat} (h : j < Q.length) (hn : okAt k Q j Q[j] = false) : ¬ PageOk k Q := fun hp => by
  have := hp.2.2.1 j h
  rw [hn] at this
  cases this

theorem not_ok_size {k : Int} {Q : List It} {j : Nat} (h : j < Q.length) (hn : 54 < sizeTo k Q (j + 1)) : ¬ PageOk k Q := fun hp => by
  have h1 := hp.2.2.2
  have h2 := sizeTo_mono k Q (m := j + 1) (n := Q.length) (by omega)
  omega

set_option maxRecDepth 100000 in
set_option maxHeartbeats 2000000 in
theorem areItems_one (a : Option Addr) (len cap B : Nat) (Q : List It) (hlen : len ≤ 1048576) (hsm : ∀ x ∈ Q, x.key.size ≤ 1048576 ∧ x.val.size ≤ 1048576) (w : World) (hB : B ≤ w.heap.size) (hs : ItemsAt w a len B Q) :
    Calls Try.prog 29 #[.iface 87 (.agg #[]), .slice a len cap] w fun e w' => e = .returned (.bool (decide (PageOk 1 Q))) ∧ Below w.heap.size w w' := by
  obtain ⟨hL, hc⟩ := hs
  have HC := hide hc
  have HL := hide hL
  have HSM := hide hsm
  have hm := meth_leafRight
  clear hc hL hsm
  go_enter Try.func29, Try.ntmps29
  go_wp2_with fail
  go_loopw [5, 6, 11] (fun r l i wr => ∃ (j : Nat) (y : Nat), i = .int .i64 j ∧ j ≤ len ∧ l = .string (prevK Q j) ∧ y ≤ 54 ∧ y = sizeTo 1 Q j ∧ r = .int .i64 (54 - (y : Int)) ∧ (∀ m (h : m < Q.length), m < j → okAt 1 Q m Q[m] = true) ∧ Below w.heap.size w wr) (fun _ _ i _ => len - (intOf i).toNat)
  case atStart => exact ⟨0, 0, rfl, Nat.zero_le _, rfl, by omega, (sizeTo_zero _ _).symm, rfl, fun m h hm => by omega, Below.refl _ _⟩
  case round =>
    obtain ⟨j, y, rfl, hj, rfl, hy, hye, rfl, hok, hb⟩ := hrel
    have HOK := hide hok
    have HYE := hide hye
    clear hok hye
    by_cases hlt : j < len
    · have hjL : j < Q.length := by have := unhide HL; omega
      obtain ⟨b, off, rfl, hbB, hc0, hc1, hc2⟩ := unhide HC j hjL
      rw [← hb.cell (p := ⟨b, off + j * 3, none⟩) (by simp; omega)] at hc0
      rw [← hb.cell (p := ⟨b, off + j * 3 + 1, none⟩) (by simp; omega)] at hc1
      rw [← hb.cell (p := ⟨b, off + j * 3 + 2, none⟩) (by simp; omega)] at hc2
      have hx0 : (0 : Int) ≤ (j : Int) := by omega
      have hx1 : (j : Int) < (len : Int) := by omega
      have HNO := hide (fun (h : okAt 1 Q j Q[j] = false) => not_ok_at hjL h)
      have HNS := hide (fun (h : 54 < sizeTo 1 Q (j + 1)) => not_ok_size hjL h)
      have hoke : okAt 1 Q j Q[j] = (Op.bytesLess (prevK Q j).toList Q[j].key.toList && restOk 1 Q[j]) := rfl
      have HSS := hide (sizeTo_succ 1 Q j hjL)
      have HPV := hide (prevK_succ Q j hjL)
      have HR := hide (fun w => leafRight_any Q[j] w)
      have hsm := unhide HSM
      have HZ := hide (fun w => sizeIn_one Q[j] (hsm _ (List.getElem_mem hjL)).1 (hsm _ (List.getElem_mem hjL)).2 w)
      have hzl := itSize_le 1 Q[j]
      have hz1 := hsm _ (List.getElem_mem hjL)
      have hz2 : itSize 1 Q[j] ≤ 3000000 := by omega
      have HOKN : Hid (okAt 1 Q j Q[j] = true → ∀ m (h : m < Q.length), m < j + 1 → okAt 1 Q m Q[m] = true) := fun h m hm hmj => by
        by_cases e : m = j
        · subst e; exact h
        · exact unhide HOK m hm (by omega)
      generalize okAt 1 Q j Q[j] = ok at hoke HNO HOKN
      generalize Q[j] = q at hc0 hc1 hc2 hoke HSS HPV HR HZ hz2
      generalize itSize 1 q = z at HSS HZ hz2
      generalize restOk 1 q = ro at hoke HR
      obtain ⟨s, t, p⟩ := q
      simp only [itV] at hc0 hc1 hc2 hoke HPV HR HZ
      clear hzl hz1 hsm
      have htt := less_total (prevK Q j).toList s.toList
      generalize prevK Q j = l at hoke htt ⊢
      have hbn : Below w.heap.size w (wr.alloc (Obj.cells #[Value.string s, Value.string t, Value.int .i64 p] 33)) := hb.alloc hb.size _
      cases h1 : Op.bytesLess s.toList l.toList
      · cases h2 : (s.toList == l.toList)
        · have h3 : Op.bytesLess l.toList s.toList = true := by
            rw [h1, h2] at htt
            simpa using htt.symm
          rw [h3, Bool.true_and] at hoke
          subst hoke
          clear htt h3
          go_wp2_with fail
          refine (unhide HR _).mono ?_
          rintro e w2 ⟨rfl, hb2⟩
          have hlz : wr.heap.size < (wr.alloc (Obj.cells #[Value.string s, Value.string t, Value.int .i64 p] 33)).heap.size := by simp
          have d0 : w2.cell? ⟨wr.heap.size, 0, none⟩ = some (.string s) := (hb2.cell (p := ⟨wr.heap.size, 0, none⟩) hlz).trans (by simp [go_sem])
          have d1 : w2.cell? ⟨wr.heap.size, 1, none⟩ = some (.string t) := (hb2.cell (p := ⟨wr.heap.size, 1, none⟩) hlz).trans (by simp [go_sem])
          have d2 : w2.cell? ⟨wr.heap.size, 2, none⟩ = some (.int .i64 p) := (hb2.cell (p := ⟨wr.heap.size, 2, none⟩) hlz).trans (by simp [go_sem])
          have hw2 : wr.heap.size < w2.heap.size := Nat.lt_of_lt_of_le hlz hb2.size
          have hbe2 := hbn.trans (hb2.mono hbn.size)
          clear hb2 hbn hb hlz hc0 hc1 hc2
          cases ok
          · go_wp2
            go_ret
            refine ⟨?_, hbe2⟩
            rw [decide_eq_false (unhide HNO (by simp))]
            rfl
          · go_wp2_with fail
            refine (unhide HZ _).mono ?_
            rintro e w3 ⟨rfl, hb3⟩
            have f0 := (hb3.cell (p := ⟨wr.heap.size, 0, none⟩) hw2).trans d0
            have hbe3 := hbe2.trans (hb3.mono hbe2.size)
            clear hb3 hbe2 d0 d1 d2
            by_cases hroom : (54 : Int) - (y : Int) - (z : Int) < 0
            · go_wp2
              go_ret
              refine ⟨?_, hbe3⟩
              rw [decide_eq_false (unhide HNS (by rw [unhide HSS, ← unhide HYE]; omega))]
              rfl
            · go_wp2
              go_roundw
              case rel => exact ⟨j + 1, y + z, by go_num, by omega, by rw [unhide HPV], by omega, by rw [unhide HSS, ← unhide HYE], by go_num, unhide HOKN (by simp), hbe3⟩
              case measure => simp [intOf]; omega
        · have h3 : Op.bytesLess l.toList s.toList = false := by
            rw [h1, h2] at htt
            simpa using htt.symm
          rw [h3, Bool.false_and] at hoke
          subst hoke
          clear htt h3
          go_wp2
          go_ret
          refine ⟨?_, hbn⟩
          rw [decide_eq_false (unhide HNO (by simp))]
          rfl
      · have h3 : Op.bytesLess l.toList s.toList = false := by
          rw [h1] at htt
          simpa using htt.symm
        rw [h3, Bool.false_and] at hoke
        subst hoke
        clear htt h3
        go_wp2
        go_ret
        refine ⟨?_, hbn⟩
        rw [decide_eq_false (unhide HNO (by simp))]
        rfl
    · have hje : j = Q.length := by have := unhide HL; omega
      have hPO : PageOk 1 Q ↔ 0 < len := by
        constructor
        · intro h; have := h.2.1; have := unhide HL; omega
        · intro h
          refine ⟨by omega, by have := unhide HL; omega, fun m hm => unhide HOK m hm (by omega), ?_⟩
          rw [← hje, ← unhide HYE]; exact hy
      have HPO := hide hPO
      clear hPO hje
      by_cases h0 : (0 : Int) < (len : Int)
      · go_wp2
        go_ret
        refine ⟨?_, hb⟩
        have hd : decide (PageOk 1 Q) = true := decide_eq_true ((unhide HPO).2 (by omega))
        rw [hd]
        simp
        omega
      · go_wp2
        go_ret
        refine ⟨?_, hb⟩
        have hd : decide (PageOk 1 Q) = false := decide_eq_false (fun h => by have := (unhide HPO).1 h; omega)
        rw [hd]
        simp
        omega

set_option maxRecDepth 100000 in
set_option maxHeartbeats 2000000 in
theorem areItems_two (a : Option Addr) (len cap B : Nat) (Q : List It) (hlen : len ≤ 1048576) (hsm : ∀ x ∈ Q, x.key.size ≤ 1048576 ∧ x.val.size ≤ 1048576) (w : World) (hB : B ≤ w.heap.size) (hs : ItemsAt w a len B Q) :
    Calls Try.prog 29 #[.iface 88 (.agg #[]), .slice a len cap] w fun e w' => e = .returned (.bool (decide (PageOk 2 Q))) ∧ Below w.heap.size w w' := by
  obtain ⟨hL, hc⟩ := hs
  have HC := hide hc
  have HL := hide hL
  have HSM := hide hsm
  have hm := meth_innerRight
  clear hc hL hsm
  go_enter Try.func29, Try.ntmps29
  go_wp2_with fail
  go_loopw [5, 6, 11] (fun r l i wr => ∃ (j : Nat) (y : Nat), i = .int .i64 j ∧ j ≤ len ∧ l = .string (prevK Q j) ∧ y ≤ 54 ∧ y = sizeTo 2 Q j ∧ r = .int .i64 (54 - (y : Int)) ∧ (∀ m (h : m < Q.length), m < j → okAt 2 Q m Q[m] = true) ∧ Below w.heap.size w wr) (fun _ _ i _ => len - (intOf i).toNat)
  case atStart => exact ⟨0, 0, rfl, Nat.zero_le _, rfl, by omega, (sizeTo_zero _ _).symm, rfl, fun m h hm => by omega, Below.refl _ _⟩
  case round =>
    obtain ⟨j, y, rfl, hj, rfl, hy, hye, rfl, hok, hb⟩ := hrel
    have HOK := hide hok
    have HYE := hide hye
    clear hok hye
    by_cases hlt : j < len
    · have hjL : j < Q.length := by have := unhide HL; omega
      obtain ⟨b, off, rfl, hbB, hc0, hc1, hc2⟩ := unhide HC j hjL
      rw [← hb.cell (p := ⟨b, off + j * 3, none⟩) (by simp; omega)] at hc0
      rw [← hb.cell (p := ⟨b, off + j * 3 + 1, none⟩) (by simp; omega)] at hc1
      rw [← hb.cell (p := ⟨b, off + j * 3 + 2, none⟩) (by simp; omega)] at hc2
      have hx0 : (0 : Int) ≤ (j : Int) := by omega
      have hx1 : (j : Int) < (len : Int) := by omega
      have HNO := hide (fun (h : okAt 2 Q j Q[j] = false) => not_ok_at hjL h)
      have HNS := hide (fun (h : 54 < sizeTo 2 Q (j + 1)) => not_ok_size hjL h)
      have hoke : okAt 2 Q j Q[j] = (Op.bytesLess (prevK Q j).toList Q[j].key.toList && restOk 2 Q[j]) := rfl
      have HSS := hide (sizeTo_succ 2 Q j hjL)
      have HPV := hide (prevK_succ Q j hjL)
      have HR := hide (fun w => innerRight_any Q[j] w)
      have hsm := unhide HSM
      have HZ := hide (fun w => sizeIn_two Q[j] (hsm _ (List.getElem_mem hjL)).1 w)
      have hzl := itSize_le 2 Q[j]
      have hz1 := hsm _ (List.getElem_mem hjL)
      have hz2 : itSize 2 Q[j] ≤ 3000000 := by omega
      have HOKN : Hid (okAt 2 Q j Q[j] = true → ∀ m (h : m < Q.length), m < j + 1 → okAt 2 Q m Q[m] = true) := fun h m hm hmj => by
        by_cases e : m = j
        · subst e; exact h
        · exact unhide HOK m hm (by omega)
      generalize okAt 2 Q j Q[j] = ok at hoke HNO HOKN
      generalize Q[j] = q at hc0 hc1 hc2 hoke HSS HPV HR HZ hz2
      generalize itSize 2 q = z at HSS HZ hz2
      generalize restOk 2 q = ro at hoke HR
      obtain ⟨s, t, p⟩ := q
      simp only [itV] at hc0 hc1 hc2 hoke HPV HR HZ
      clear hzl hz1 hsm
      have htt := less_total (prevK Q j).toList s.toList
      generalize prevK Q j = l at hoke htt ⊢
      have hbn : Below w.heap.size w (wr.alloc (Obj.cells #[Value.string s, Value.string t, Value.int .i64 p] 33)) := hb.alloc hb.size _
      cases h1 : Op.bytesLess s.toList l.toList
      · cases h2 : (s.toList == l.toList)
        · have h3 : Op.bytesLess l.toList s.toList = true := by
            rw [h1, h2] at htt
            simpa using htt.symm
          rw [h3, Bool.true_and] at hoke
          subst hoke
          clear htt h3
          go_wp2_with fail
          refine (unhide HR _).mono ?_
          rintro e w2 ⟨rfl, hb2⟩
          have hlz : wr.heap.size < (wr.alloc (Obj.cells #[Value.string s, Value.string t, Value.int .i64 p] 33)).heap.size := by simp
          have d0 : w2.cell? ⟨wr.heap.size, 0, none⟩ = some (.string s) := (hb2.cell (p := ⟨wr.heap.size, 0, none⟩) hlz).trans (by simp [go_sem])
          have d1 : w2.cell? ⟨wr.heap.size, 1, none⟩ = some (.string t) := (hb2.cell (p := ⟨wr.heap.size, 1, none⟩) hlz).trans (by simp [go_sem])
          have d2 : w2.cell? ⟨wr.heap.size, 2, none⟩ = some (.int .i64 p) := (hb2.cell (p := ⟨wr.heap.size, 2, none⟩) hlz).trans (by simp [go_sem])
          have hw2 : wr.heap.size < w2.heap.size := Nat.lt_of_lt_of_le hlz hb2.size
          have hbe2 := hbn.trans (hb2.mono hbn.size)
          clear hb2 hbn hb hlz hc0 hc1 hc2
          cases ok
          · go_wp2
            go_ret
            refine ⟨?_, hbe2⟩
            rw [decide_eq_false (unhide HNO (by simp))]
            rfl
          · go_wp2_with fail
            refine (unhide HZ _).mono ?_
            rintro e w3 ⟨rfl, hb3⟩
            have f0 := (hb3.cell (p := ⟨wr.heap.size, 0, none⟩) hw2).trans d0
            have hbe3 := hbe2.trans (hb3.mono hbe2.size)
            clear hb3 hbe2 d0 d1 d2
            by_cases hroom : (54 : Int) - (y : Int) - (z : Int) < 0
            · go_wp2
              go_ret
              refine ⟨?_, hbe3⟩
              rw [decide_eq_false (unhide HNS (by rw [unhide HSS, ← unhide HYE]; omega))]
              rfl
            · go_wp2
              go_roundw
              case rel => exact ⟨j + 1, y + z, by go_num, by omega, by rw [unhide HPV], by omega, by rw [unhide HSS, ← unhide HYE], by go_num, unhide HOKN (by simp), hbe3⟩
              case measure => simp [intOf]; omega
        · have h3 : Op.bytesLess l.toList s.toList = false := by
            rw [h1, h2] at htt
            simpa using htt.symm
          rw [h3, Bool.false_and] at hoke
          subst hoke
          clear htt h3
          go_wp2
          go_ret
          refine ⟨?_, hbn⟩
          rw [decide_eq_false (unhide HNO (by simp))]
          rfl
      · have h3 : Op.bytesLess l.toList s.toList = false := by
          rw [h1] at htt
          simpa using htt.symm
        rw [h3, Bool.false_and] at hoke
        subst hoke
        clear htt h3
        go_wp2
        go_ret
        refine ⟨?_, hbn⟩
        rw [decide_eq_false (unhide HNO (by simp))]
        rfl
    · have hje : j = Q.length := by have := unhide HL; omega
      have hPO : PageOk 2 Q ↔ 0 < len := by
        constructor
        · intro h; have := h.2.1; have := unhide HL; omega
        · intro h
          refine ⟨by omega, by have := unhide HL; omega, fun m hm => unhide HOK m hm (by omega), ?_⟩
          rw [← hje, ← unhide HYE]; exact hy
      have HPO := hide hPO
      clear hPO hje
      by_cases h0 : (0 : Int) < (len : Int)
      · go_wp2
        go_ret
        refine ⟨?_, hb⟩
        have hd : decide (PageOk 2 Q) = true := decide_eq_true ((unhide HPO).2 (by omega))
        rw [hd]
        simp
        omega
      · go_wp2
        go_ret
        refine ⟨?_, hb⟩
        have hd : decide (PageOk 2 Q) = false := decide_eq_false (fun h => by have := (unhide HPO).1 h; omega)
        rw [hd]
        simp
        omega

end Go.Proofs.Ytajajfmaekdphaa
