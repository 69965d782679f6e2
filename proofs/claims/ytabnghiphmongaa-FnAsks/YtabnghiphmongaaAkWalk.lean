/-
  Asks come back from their bytes: FnAsks over the contracts of all that it calls.
-/
import Derived.Test.YtabnghiphmongaaAkDraw3
import Derived.Test.YtabnghiphmongaaAkImpl
namespace Go.Proofs.Ytabnghiphmongaa
namespace Gr
open Go.RowKit

theorem askGo_some (n : Nat) : ∀ (L : List Int) (k : Nat) (s B : ByteArray), askGo n k s L = some B → (∀ y ∈ L, small y) ∧ B.data.toList = s.data.toList ++ (L.take (n - k)).flatMap vL ∧ ∀ y ∈ L.drop (n - k), y = 0
  | [], k, s, B, h => by
    simp [askGo] at h
    subst h
    simp
  | y :: L, k, s, B, h => by
    rw [askGo] at h
    split at h
    · rename_i hc
      simp at hc
      obtain ⟨i1, i2, i3⟩ := askGo_some n L (k + 1) _ B h
      have hsy : small y := hc.1
      refine ⟨fun z hz => ?_, ?_⟩
      · rcases List.mem_cons.1 hz with rfl | hz
        · exact hsy
        · exact i1 z hz
      · by_cases hk : k < n
        · have e : n - k = (n - (k + 1)) + 1 := by omega
          rw [e]
          rw [if_pos hk] at i2
          refine ⟨?_, ?_⟩
          · rw [i2, List.take_succ_cons, List.flatMap_cons, app_list, vB_list, List.append_assoc]
          · rw [List.drop_succ_cons]
            exact i3
        · have e : n - k = 0 := by omega
          have e1 : n - (k + 1) = 0 := by omega
          rw [e]
          rw [e1] at i2 i3
          rw [if_neg hk] at i2
          refine ⟨by simpa using i2, ?_⟩
          intro z hz
          rcases List.mem_cons.1 (by simpa using hz) with rfl | hz
          · exact hc.2.resolve_left hk
          · exact i3 z (by simpa using hz)
    · simp at h

theorem rdN_back (t : ByteArray) : ∀ (Q : List Int) (p r : List UInt8), (∀ e ∈ Q, small e) → t.data.toList = p ++ (Q.flatMap vL ++ r) → rdN t Q.length ⟨p.length, false⟩ = (Q, ⟨(p ++ Q.flatMap vL).length, false⟩)
  | [], p, r, _, _ => by simp [rdN]
  | e :: Q, p, r, h, ht => by
    obtain ⟨a0, a1⟩ := h e (by simp)
    rw [List.flatMap_cons] at ht
    simp only [List.append_assoc] at ht
    have r1 := rd_back t p _ e a0 a1 ht
    have r6 := rdN_back t Q (p ++ vL e) r (fun x hx => h x (by simp [hx])) (by rw [ht]; simp only [List.append_assoc] <;> rfl)
    rw [List.length_cons, rdN]
    simp only [r1, r6]
    simp only [List.flatMap_cons, List.append_assoc]

/-- What AskText tells of an ask is read back. -/
theorem ask_back (x : AskI) (h : askOk x = true) : raOk (askT x) = true ∧ raV (askT x) = x := by
  obtain ⟨B, hB⟩ : ∃ B, askR x = some B := Option.isSome_iff_exists.1 h
  have hT : askT x = B := by unfold askT; rw [hB]; rfl
  rw [hT]
  have hB2 := hB
  unfold askR at hB
  split at hB
  · rename_i h16
    obtain ⟨i1, i2, i3⟩ := askGo_some _ _ _ _ _ hB
    rw [Nat.sub_zero] at i2 i3
    have hn5 := askN_le x.Op
    have hL5 : (askL x).length = 5 := rfl
    have hob : (opB x.Op).data.toList = [UInt8.ofNat x.Op.toNat] := rfl
    have hsz : B.size = B.data.toList.length := Array.length_toList.symm
    have h0 : 0 < B.size := by rw [hsz, i2, hob]; simp
    have hop : opOf B = x.Op := by
      unfold opOf
      rw [byteAt_list, i2, hob]
      simp
      have : (x.Op.toNat % 256 : Nat) = x.Op.toNat := Nat.mod_eq_of_lt (by omega)
      omega
    have hlt : ((askL x).take (askN x.Op)).length = askN x.Op := by rw [List.length_take]; omega
    have hrd := rdN_back B ((askL x).take (askN x.Op)) [UInt8.ofNat x.Op.toNat] [] (fun e he => i1 e (List.mem_of_mem_take he)) (by rw [i2, hob]; simp)
    rw [hlt] at hrd
    have hp1 : [UInt8.ofNat x.Op.toNat].length = 1 := rfl
    rw [hp1] at hrd
    have hpad : padL ((askL x).take (askN x.Op)) = askL x := by
      unfold padL
      rw [hlt]
      have hdr : (askL x).drop (askN x.Op) = List.replicate (5 - askN x.Op) 0 := by
        rw [List.eq_replicate_iff]
        exact ⟨by rw [List.length_drop, hL5], i3⟩
      rw [← hdr, List.take_append_drop]
    have hX : raX B = x := by
      unfold raX
      rw [hop, hrd]
      unfold askOf
      rw [hpad]
      rfl
    have hok : raOk B = true := by
      unfold raOk
      rw [decide_eq_true h0, hX, h, hT, hop, hrd]
      simp
    exact ⟨hok, by unfold raV; rw [if_pos hok, hX]⟩
  · cases hB

/-- The bytes that are read are those of what is read. -/
theorem read_back (t : ByteArray) (h : raOk t = true) : askT (raV t) = t := by
  have hV : raV t = raX t := by unfold raV; rw [if_pos h]
  unfold raOk at h
  simp at h
  rw [hV]
  exact h.2.2.2

theorem tooBigA (a : Option Addr) (len cap : Nat) (w : World) :
    Calls Try.prog 12 #[.slice a len cap] w fun e w' => e = .returned (.bool (decide ((1048576 : Int) < (len : Int)))) ∧ w' = w := by
  go_enter Try.func12, Try.ntmps12
  go_wp2
  go_ret
  exact ⟨rfl, rfl⟩

set_option maxRecDepth 100000 in
theorem asks_big (a : Option Addr) (len cap : Nat) (hl : ¬ len ≤ 1048576) (w : World) :
    Calls Try.prog 5 #[.slice a len cap] w fun e w' => e = .returned (.bool true) ∧ Below w.heap.size w w' := by
  have H := hide (tooBigA a len cap w)
  have e : decide ((1048576 : Int) < (len : Int)) = true := by simp; omega
  rw [e] at H
  clear e
  go_enter Try.func5, Try.ntmps5
  go_wp2_with fail
  refine (unhide H).mono ?_
  rintro e w1 ⟨rfl, rfl⟩
  go_wp2
  go_ret
  exact ⟨rfl, Below.refl _ _⟩

set_option maxRecDepth 100000 in
set_option maxHeartbeats 2000000 in
theorem asks_walk (a : Option Addr) (len cap : Nat) (hl : len ≤ 1048576) (w : World) (hd : Code a len w.heap.size w) :
    Calls Try.prog 5 #[.slice a len cap] w fun e w' => e = .returned (.bool true) ∧ Below w.heap.size w w' := by
  have H := hide (tooBigA a len cap w)
  have e : decide ((1048576 : Int) < (len : Int)) = false := by simp; omega
  rw [e] at H
  clear e
  have DA := hide (drawAskText_any a len cap hl w hd)
  have DR := hide (fun w1 (hb : Below w.heap.size w w1) => drawReadAsk_any a len cap hl w1 (code_up (code_below hd hb (Nat.le_refl _)) hb.size))
  have IA := hide (fun x w1 => implAskText_any x w1)
  have SA := hide (fun x w1 => specAskText_any x w1)
  have IR := hide (fun t ht w1 => implReadAsk_any t ht w1)
  have SR := hide (fun t ht w1 => specReadAsk_any t ht w1)
  clear hd
  go_enter Try.func5, Try.ntmps5
  go_wp2_with fail
  refine (unhide H).mono ?_
  rintro e w1 ⟨rfl, hw1⟩
  obtain hw1 := hw1.symm
  subst hw1
  go_wp2_with fail
  refine (unhide DA).mono ?_
  rintro e w2 ⟨⟨x, rfl⟩, hb2⟩
  have hab := ask_back x
  have hsz := askT_size x
  have IAx := hide (fun w1 => unhide IA x w1)
  have SAx := hide (fun w1 => unhide SA x w1)
  have IRx := hide (fun w1 => unhide IR (askT x) (by omega) w1)
  generalize askT x = t at hab hsz IAx SAx IRx
  generalize askOk x = ok at hab IAx SAx
  have HAB := hide hab
  clear hab hsz
  obtain ⟨v0, v1, v2, v3, v4, v5⟩ := x
  unfold AskI.v at IAx SAx ⊢
  simp only at IAx SAx ⊢
  obtain ⟨V, hV⟩ : ∃ W, W = w2.alloc (Obj.cells #[Value.int .i64 v0, Value.int .i64 v1, Value.int .i64 v2, Value.int .i64 v3, Value.int .i64 v4, Value.int .i64 v5] 26) := ⟨_, rfl⟩
  have HVB : Hid (Blk V w2.heap.size #[Value.int .i64 v0, Value.int .i64 v1, Value.int .i64 v2, Value.int .i64 v3, Value.int .i64 v4, Value.int .i64 v5] 26) := by show Blk _ _ _ _; rw [hV]; exact Blk.new0
  have HVW : Hid (Below w.heap.size w V) := by show Below _ _ _; rw [hV]; exact hb2.alloc hb2.size _
  have HV := hide hV
  clear hV hb2
  go_wp2_with fail
  rw [← unhide HV]
  clear HV
  refine (unhide IAx _).mono ?_
  rintro e w3 ⟨rfl, hb3⟩
  have HB3 := hide ((unhide HVB).below hb3)
  have HW3 := hide ((unhide HVW).trans (hb3.mono (unhide HVW).size))
  clear hb3 HVB HVW
  have k0 : w3.cell? ⟨w2.heap.size, 0, none⟩ = some (.int .i64 v0) := (unhide HB3).cell 0 _ rfl
  have k1 : w3.cell? ⟨w2.heap.size, 1, none⟩ = some (.int .i64 v1) := (unhide HB3).cell 1 _ rfl
  have k2 : w3.cell? ⟨w2.heap.size, 2, none⟩ = some (.int .i64 v2) := (unhide HB3).cell 2 _ rfl
  have k3 : w3.cell? ⟨w2.heap.size, 3, none⟩ = some (.int .i64 v3) := (unhide HB3).cell 3 _ rfl
  have k4 : w3.cell? ⟨w2.heap.size, 4, none⟩ = some (.int .i64 v4) := (unhide HB3).cell 4 _ rfl
  have k5 : w3.cell? ⟨w2.heap.size, 5, none⟩ = some (.int .i64 v5) := (unhide HB3).cell 5 _ rfl
  go_wp2_with fail
  refine (unhide SAx _).mono ?_
  rintro e w4 ⟨rfl, hb4⟩
  have HB4 := hide ((unhide HB3).below hb4)
  have HW4 := hide ((unhide HW3).trans (hb4.mono (unhide HW3).size))
  clear hb4 HB3 HW3 k0 k1 k2 k3 k4 k5
  go_wp2_with fail
  refine (unhide IRx _).mono ?_
  rintro e w5 ⟨rfl, hb5⟩
  have HB5 := hide ((unhide HB4).below hb5)
  have HW5 := hide ((unhide HW4).trans (hb5.mono (unhide HW4).size))
  clear hb5 HB4 HW4
  have zx := (unhide HB5).lt
  obtain ⟨ro, hro⟩ : ∃ r, r = raOk t := ⟨_, rfl⟩
  obtain ⟨ry, hry⟩ : ∃ r, r = raV t := ⟨_, rfl⟩
  rw [← hro, ← hry] at HAB ⊢
  clear hro hry
  obtain ⟨u0, u1, u2, u3, u4, u5⟩ := ry
  unfold AskI.v
  simp only
  obtain ⟨V6, hV6⟩ : ∃ W, W = w5.alloc (Obj.cells #[Value.int .i64 u0, Value.int .i64 u1, Value.int .i64 u2, Value.int .i64 u3, Value.int .i64 u4, Value.int .i64 u5] 26) := ⟨_, rfl⟩
  have HW6 : Hid (Below w.heap.size w V6) := by show Below _ _ _; rw [hV6]; exact (unhide HW5).alloc (unhide HW5).size _
  have HV6 := hide hV6
  have k0 : w5.cell? ⟨w2.heap.size, 0, none⟩ = some (.int .i64 v0) := (unhide HB5).cell 0 _ rfl
  have k1 : w5.cell? ⟨w2.heap.size, 1, none⟩ = some (.int .i64 v1) := (unhide HB5).cell 1 _ rfl
  have k2 : w5.cell? ⟨w2.heap.size, 2, none⟩ = some (.int .i64 v2) := (unhide HB5).cell 2 _ rfl
  have k3 : w5.cell? ⟨w2.heap.size, 3, none⟩ = some (.int .i64 v3) := (unhide HB5).cell 3 _ rfl
  have k4 : w5.cell? ⟨w2.heap.size, 4, none⟩ = some (.int .i64 v4) := (unhide HB5).cell 4 _ rfl
  have k5 : w5.cell? ⟨w2.heap.size, 5, none⟩ = some (.int .i64 v5) := (unhide HB5).cell 5 _ rfl
  clear hV6 HB5 HW5 IAx SAx IRx H DA
  go_upto_region 7 with fail
  rw [← unhide HV6]
  have zv : w2.heap.size < w5.heap.size := zx
  have hVx : Hid (Blk V6 w5.heap.size #[Value.int .i64 u0, Value.int .i64 u1, Value.int .i64 u2, Value.int .i64 u3, Value.int .i64 u4, Value.int .i64 u5] 26) := by show Blk _ _ _ _; rw [unhide HV6]; exact Blk.new0
  have hV6c : ∀ j, V6.cell? ⟨w2.heap.size, j, none⟩ = w5.cell? ⟨w2.heap.size, j, none⟩ := fun j => by rw [unhide HV6]; exact (below_new w5 _).cell (p := ⟨w2.heap.size, j, none⟩) (by simpa using zv)
  rw [← hV6c] at k0 k1 k2 k3 k4 k5
  have j0 : V6.cell? ⟨w5.heap.size, 0, none⟩ = some (.int .i64 u0) := (unhide hVx).cell 0 _ rfl
  have j1 : V6.cell? ⟨w5.heap.size, 1, none⟩ = some (.int .i64 u1) := (unhide hVx).cell 1 _ rfl
  have j2 : V6.cell? ⟨w5.heap.size, 2, none⟩ = some (.int .i64 u2) := (unhide hVx).cell 2 _ rfl
  have j3 : V6.cell? ⟨w5.heap.size, 3, none⟩ = some (.int .i64 u3) := (unhide hVx).cell 3 _ rfl
  have j4 : V6.cell? ⟨w5.heap.size, 4, none⟩ = some (.int .i64 u4) := (unhide hVx).cell 4 _ rfl
  have j5 : V6.cell? ⟨w5.heap.size, 5, none⟩ = some (.int .i64 u5) := (unhide hVx).cell 5 _ rfl
  clear hV6c hVx HV6
  go_cut [50] (fun c wx => c = .bool false ∧ wx = V6)
  case first =>
    cases ok with
    | false =>
      go_wp2_with fail
      go_meet
      exact ⟨rfl, rfl⟩
    | true =>
      obtain ⟨rfl, hxy⟩ := unhide HAB rfl
      have h0 : u0 = v0 := congrArg AskI.Op hxy
      have h1 : u1 = v1 := congrArg AskI.A hxy
      have h2 : u2 = v2 := congrArg AskI.B hxy
      have h3 : u3 = v3 := congrArg AskI.W1 hxy
      have h4 : u4 = v4 := congrArg AskI.W2 hxy
      have h5 : u5 = v5 := congrArg AskI.W3 hxy
      clear HAB hxy
      subst h0 h1 h2 h3 h4 h5
      go_wp2_with fail
      go_meet
      exact ⟨rfl, rfl⟩
  case rest =>
    obtain ⟨rfl, rfl⟩ := hcut
    clear k0 k1 k2 k3 k4 k5 j0 j1 j2 j3 j4 j5 HAB
    go_wp2_with fail
    refine (unhide DR _ (unhide HW6)).mono ?_
    rintro e w7 ⟨⟨r, rfl, hr⟩, hb7⟩
    have HW7 := hide ((unhide HW6).trans (hb7.mono (unhide HW6).size))
    have hrb := read_back r
    have IRr := hide (fun w1 => unhide IR r (by omega) w1)
    have SRr := hide (fun w1 => unhide SR r (by omega) w1)
    have IAr := hide (fun w1 => unhide IA (raV r) w1)
    generalize raOk r = rok at hrb IRr SRr
    generalize askT (raV r) = again at hrb IAr
    generalize raV r = ry at IRr SRr IAr
    generalize askOk ry = aok at IAr
    obtain ⟨y0, y1, y2, y3, y4, y5⟩ := ry
    have HRB := hide hrb
    clear hrb hr hb7 IR SR IA SA DR HW6
    unfold AskI.v at IRr SRr IAr
    simp only at IRr SRr IAr
    go_wp2_with fail
    refine (unhide IRr _).mono ?_
    rintro e w8 ⟨rfl, hb8⟩
    have HW8 := hide ((unhide HW7).trans (hb8.mono (unhide HW7).size))
    obtain ⟨V8, hV8⟩ : ∃ W, W = w8.alloc (Obj.cells #[Value.int .i64 y0, Value.int .i64 y1, Value.int .i64 y2, Value.int .i64 y3, Value.int .i64 y4, Value.int .i64 y5] 26) := ⟨_, rfl⟩
    have HVB : Hid (Blk V8 w8.heap.size #[Value.int .i64 y0, Value.int .i64 y1, Value.int .i64 y2, Value.int .i64 y3, Value.int .i64 y4, Value.int .i64 y5] 26) := by show Blk _ _ _ _; rw [hV8]; exact Blk.new0
    have HVW : Hid (Below w.heap.size w V8) := by show Below _ _ _; rw [hV8]; exact (unhide HW8).alloc (unhide HW8).size _
    have HV8 := hide hV8
    clear hV8 hb8 HW7 HW8
    go_wp2_with fail
    rw [← unhide HV8]
    clear HV8
    refine (unhide SRr _).mono ?_
    rintro e w9 ⟨rfl, hb9⟩
    have HB9 := hide ((unhide HVB).below hb9)
    have HW9 := hide ((unhide HVW).trans (hb9.mono (unhide HVW).size))
    have z9 := (unhide HB9).lt
    obtain ⟨V10, hV10⟩ : ∃ W, W = w9.alloc (Obj.cells #[Value.int .i64 y0, Value.int .i64 y1, Value.int .i64 y2, Value.int .i64 y3, Value.int .i64 y4, Value.int .i64 y5] 26) := ⟨_, rfl⟩
    have HB10 : Hid (Blk V10 w8.heap.size #[Value.int .i64 y0, Value.int .i64 y1, Value.int .i64 y2, Value.int .i64 y3, Value.int .i64 y4, Value.int .i64 y5] 26) := by show Blk _ _ _ _; rw [hV10]; exact (unhide HB9).alloc
    have HW10 : Hid (Below w.heap.size w V10) := by show Below _ _ _; rw [hV10]; exact (unhide HW9).alloc (unhide HW9).size _
    have HV10 := hide hV10
    clear hV10 hb9 HVB HVW HB9 HW9
    go_upto_region 12 with fail
    rw [← unhide HV10]
    clear HV10
    have k0 : V10.cell? ⟨w8.heap.size, 0, none⟩ = some (.int .i64 y0) := (unhide HB10).cell 0 _ rfl
    have k1 : V10.cell? ⟨w8.heap.size, 1, none⟩ = some (.int .i64 y1) := (unhide HB10).cell 1 _ rfl
    have k2 : V10.cell? ⟨w8.heap.size, 2, none⟩ = some (.int .i64 y2) := (unhide HB10).cell 2 _ rfl
    have k3 : V10.cell? ⟨w8.heap.size, 3, none⟩ = some (.int .i64 y3) := (unhide HB10).cell 3 _ rfl
    have k4 : V10.cell? ⟨w8.heap.size, 4, none⟩ = some (.int .i64 y4) := (unhide HB10).cell 4 _ rfl
    have k5 : V10.cell? ⟨w8.heap.size, 5, none⟩ = some (.int .i64 y5) := (unhide HB10).cell 5 _ rfl
    clear HB10
    go_wp2_with fail
    refine (unhide IAr _).mono ?_
    rintro e w11 ⟨rfl, hb11⟩
    have HW11 := hide ((unhide HW10).trans (hb11.mono (unhide HW10).size))
    clear hb11 HW10 k0 k1 k2 k3 k4 k5
    cases rok with
    | false =>
      go_wp2_with fail
      go_ret
      exact ⟨rfl, unhide HW11⟩
    | true =>
      have hag := unhide HRB rfl
      subst hag
      go_wp2_with fail
      go_ret
      exact ⟨rfl, unhide HW11⟩
end Gr
end Go.Proofs.Ytabnghiphmongaa
