/-
 Rg7, Rg8.
-/
import Derived.Test.YtihnaddfpmjpaaaGreatDoorJ31
import Derived.Test.YtihnaddfpmjpaaaGreatDoorJ32
import Derived.Test.YtihnaddfpmjpaaaGreatDoorJ30
namespace Go.Proofs.YtihnaddfpmjpaaaGreatDoor
namespace Gr
open Go.RowKit
def idsAll (Q : List (ByteArray × ByteArray)) : List Int := if Rg.stateOk Q = true then Rg.idsP [] Q else []
def idsHere (Q : List (ByteArray × ByteArray)) : List Int := if Rg.stateOk Q = true then Rg.idsP [97] Q else []
theorem ids_len (u : List UInt8) (Q : List (ByteArray × ByteArray)) : (if Rg.stateOk Q = true then Rg.idsP u Q else []).length ≤ pasize Q := by
  split
  · rename_i h
    unfold Rg.stateOk at h
    simp only [Bool.and_eq_true, decide_eq_true_eq] at h
    have h1 := h.1.1
    have h2 := Rg.ids_short u Q
    unfold pasize
    omega
  · simp
theorem idsAll_len (Q : List (ByteArray × ByteArray)) : (idsAll Q).length ≤ pasize Q := ids_len [] Q
theorem idsHere_len (Q : List (ByteArray × ByteArray)) : (idsHere Q).length ≤ pasize Q := ids_len [97] Q
theorem specStateOk_gen (B : Nat) (v : Value) (Q : List (ByteArray × ByteArray)) (h1 : pasize Q ≤ 1048576) (w : World) (hB : B ≤ w.heap.size) (hv : PaAt w v B Q) :
    Calls Tryz.prog 36 #[v] w fun e w' => e = .returned (.bool (Rg.stateOk Q)) ∧ Below w.heap.size w w' := by
  obtain ⟨a, c, rfl, hQ, _⟩ := hv
  exact Rg.state_any a Q.length c B Q (pasize_le h1).1 w hB hQ
theorem specIds_gen (B : Nat) (v : Value) (Q : List (ByteArray × ByteArray)) (h1 : pasize Q ≤ 1048576) (w : World) (hB : B ≤ w.heap.size) (hv : PaAt w v B Q) :
    Calls Tryz.prog 10 #[v] w fun e w' => (∃ d, e = .returned d ∧ InOwn w' w.heap.size d (idsAll Q)) ∧ Below w.heap.size w w' := by
  obtain ⟨a, c, rfl, hQ, _⟩ := hv
  exact Rg.specIds_any a Q.length c B Q (pasize_le h1).1 w hB hQ
theorem specActive_gen (B : Nat) (v : Value) (Q : List (ByteArray × ByteArray)) (h1 : pasize Q ≤ 1048576) (w : World) (hB : B ≤ w.heap.size) (hv : PaAt w v B Q) :
    Calls Tryz.prog 18 #[v] w fun e w' => (∃ d, e = .returned d ∧ InOwn w' w.heap.size d (idsHere Q)) ∧ Below w.heap.size w w' := by
  obtain ⟨a, c, rfl, hQ, _⟩ := hv
  exact Rg.specActive_any a Q.length c B Q (pasize_le h1).1 w hB hQ
end Gr
end Go.Proofs.YtihnaddfpmjpaaaGreatDoor
namespace Go.Proofs.YtihnaddfpmjpaaaGreatDoor
namespace Rg
open Go.RowKit
open Gr (Blk EdgeI GBox GrOwn edgesV Kept)
theorem tw_two (n : Nat) (h : n ≤ 99) : (tw n).size = 2 := by
  have hd : ∀ m : Nat, m < 10 → (Lib.decDigits m).length = 1 := fun m hm => by rw [Lib.decDigits, dif_pos hm]; rfl
  have hl : (ByteArray.mk (Lib.itoa (n : Int)).toArray).size = (Lib.decDigits n).length := by rw [Lib.itoa_nonneg]; simp [ByteArray.size]
  unfold tw
  split
  · rename_i h10
    rw [ByteArray.size_append, hl, hd n h10]
    rfl
  · rename_i h10
    rw [hl, Lib.decDigits, dif_neg h10, List.length_append, hd (n / 10) (by omega)]
    rfl
theorem ek_size (x y : Int) (hx : x ≤ 99) (hy : y ≤ 99) : (ek x y).size = 5 := by
  unfold ek
  rw [ByteArray.size_append, ByteArray.size_append, tw_two _ (by omega), tw_two _ (by omega)]
  rfl
theorem ek_byte (x y : Int) : byteAt (ek x y) 0 = 101 := by
  have h : (ek x y).toList = 101 :: ((tw x.toNat).toList ++ (tw y.toNat).toList) := by
    rw [ByteArray.toList_eq, ByteArray.toList_eq, ByteArray.toList_eq]
    simp [ek]
  have hs : 0 < (ek x y).size := by unfold ek; rw [ByteArray.size_append, ByteArray.size_append]; have : (ByteArray.mk #[101]).size = 1 := rfl; omega
  rw [byteAt_eq hs]
  have h2 : (ek x y).toList[0]? = some (ek x y)[0] := by
    rw [ByteArray.toList_eq]
    rw [List.getElem?_eq_getElem (by simpa using hs)]
    simp
    rfl
  rw [h] at h2
  simp at h2
  rw [← h2]
  rfl
theorem link_three {Q : PL} (h : stateOk Q = true) (x y : Int) (hx : x ≤ 99) (hy : y ≤ 99) (v : ByteArray) (hg : getP Q (ek x y) = some v) : v.size = 3 := by
  unfold stateOk at h
  simp only [Bool.and_eq_true] at h
  obtain ⟨q, hq, h1, h2⟩ := get_pair Q _ v hg
  have hk := keys_all Q _ Q h.2.2.1 q hq
  rw [h1, h2] at hk
  have hs := ek_size x y hx hy
  unfold keyOk at hk
  rw [if_neg (by omega), if_pos hs, if_pos (ek_byte x y)] at hk
  unfold eOk at hk
  split at hk
  · simp at hk
  · split at hk
    · simp at hk
    · split at hk
      · simp at hk
      · split at hk
        · simp at hk
        · rename_i h3
          omega
theorem ids_range (u : List UInt8) : ∀ (Q : PL), ∀ x ∈ idsP u Q, 0 ≤ x ∧ x ≤ 99
  | [], x, hx => by simp [idsP] at hx
  | q :: L, x, hx => by
    rw [idsP] at hx
    split at hx
    · rcases List.mem_cons.1 hx with rfl | hx
      · unfold oN
        cases ho : numP (q.1.extract 1 q.1.size) with
        | none => simp
        | some m => have := numP_le ho; simp; omega
      · exact ids_range u L x hx
    · exact ids_range u L x hx
theorem results_pool {fn : Func} {s p u : Tmp} (h : fn.results = #[.tmp s, .cell p 35, .tmp u]) (tmps : Array Value) (w : World) (g : Nat) (n : Int) (b : Value) (hp : tmps.getD p undef = .pointer (some ⟨g, 0, none⟩)) (hg : GBox w g n b) :
    (results fn tmps).run Tryz.prog w = .ok (.tuple #[tmps.getD s undef, .agg #[.int .i64 n, b], tmps.getD u undef]) w := by
  obtain ⟨c0, c1⟩ := hg.cells
  have hp' : tmps[p]?.getD undef = .pointer (some ⟨g, 0, none⟩) := by simpa using hp
  simp [results, h, hp', go_sem, c0, c1]
def poolOkR (Q : PL) : Bool := stateOk Q && decide ((idsP [97] Q).length ≤ 9)
def poolIds (Q : PL) : List Int := if poolOkR Q = true then idsP [97] Q else []
def poolE (Q : PL) : List EdgeI := if poolOkR Q = true then allE Q 0 (idsP [97] Q) else []
set_option maxRecDepth 100000 in
set_option maxHeartbeats 2000000 in
theorem specPool_any (a : Option Addr) (len cap B : Nat) (Q : PL) (hlen : len ≤ 1048576) (w : World) (hB : B ≤ w.heap.size) (hs : Tr.PairsAt w a len B Q) :
    Calls Tryz.prog 20 #[.slice a len cap] w fun e w' => (∃ d d', e = .returned (.tuple #[d, d', .bool (poolOkR Q)]) ∧ Gr.InOwn w' w.heap.size d (poolIds Q) ∧ GrOwn w' w.heap.size d' ((poolIds Q).length : Int) (poolE Q)) ∧ Below w.heap.size w w' := by
  have AC := hide (fun w1 (hb : Below w.heap.size w w1) => specActive_any a len cap B Q hlen w1 (by have := hb.size; omega) (hs.below hb hB))
  have SO := hide (fun w1 (hb : Below w.heap.size w w1) => state_any a len cap B Q hlen w1 (by have := hb.size; omega) (hs.below hb hB))
  have GA := hide (fun (hst : stateOk Q = true) (hl : (idsP [97] Q).length ≤ 9) w1 ap cp (hb : Below w.heap.size w w1) (hI : IntsAt w1 ap (idsP [97] Q).length w1.heap.size (idsP [97] Q)) => graph_any a len cap w1.heap.size Q ap cp (idsP [97] Q) hlen (by omega) (ids_range [97] Q) (fun x hx y hy v h => link_three hst x y (ids_range [97] Q x hx).2 (ids_range [97] Q y hy).2 v h) w1 (Nat.le_refl _) ((hs.below hb hB).mono (by have := hb.size; omega)) hI)
  have HOK : Hid (poolOkR Q = (stateOk Q && decide ((idsP [97] Q).length ≤ 9))) := rfl
  have HI0 : Hid (poolIds Q = if poolOkR Q = true then idsP [97] Q else []) := rfl
  have HE0 : Hid (poolE Q = if poolOkR Q = true then allE Q 0 (idsP [97] Q) else []) := rfl
  generalize poolIds Q = PI at HI0 ⊢
  generalize poolE Q = PE at HE0 ⊢
  generalize poolOkR Q = OK at HOK HI0 HE0 ⊢
  generalize idsP [97] Q = P at AC GA HOK HI0 HE0
  clear hs
  obtain ⟨V, hV⟩ : ∃ W, W = w.alloc (Obj.cells #[Value.int .i64 0, Value.slice none 0 0] 35) := ⟨_, rfl⟩
  have HBX : Hid (GBox V w.heap.size 0 (.slice none 0 0)) := by rw [hV]; exact GBox.new w 0 _
  have b0 : Below w.heap.size w V := by rw [hV]; exact Gr.below_new _ _
  cases hst : stateOk Q with
  | false =>
    rw [hst] at AC SO HOK
    obtain rfl : OK = false := by rw [unhide HOK, Bool.false_and]
    obtain rfl : PI = [] := by rw [unhide HI0]; rfl
    obtain rfl : PE = [] := by rw [unhide HE0]; rfl
    have AC1 : Hid (∀ w1, Below w.heap.size w w1 → Calls Tryz.prog 18 #[.slice a len cap] w1 fun e w' => (∃ d, e = .returned d ∧ Gr.InOwn w' w1.heap.size d []) ∧ Below w1.heap.size w1 w') := AC
    clear GA HOK HI0 HE0 AC
    go_enter Tryz.func20, Tryz.ntmps20
    go_wp2_with fail
    rw [← hV]
    clear hV
    refine (unhide AC1 V b0).mono ?_
    rintro e w1 ⟨⟨d, rfl, hO⟩, hb1⟩
    have b1 := b0.trans (hb1.mono b0.size)
    obtain ⟨ap, cp, rfl, _⟩ := hO.at
    have HY1 := hide ((unhide HBX).below hb1)
    clear hO hb1 HBX
    go_wp2_with fail
    refine (unhide SO w1 b1).mono ?_
    rintro e w2 ⟨rfl, hb2⟩
    have b2 := b1.trans (hb2.mono b1.size)
    have y3 : GBox w2 w.heap.size 0 (.slice none 0 0) := (unhide HY1).below hb2
    obtain ⟨r0, r1⟩ := ((unhide HY1).below hb2).cells
    have rl := ((unhide HY1).below hb2).lt
    obtain ⟨q0, q1⟩ := y3.cells
    have qf := y3.froz
    have HO3 : Hid (Gr.InOwn (((w2.setCell ⟨w.heap.size, 0, none⟩ (.int .i64 0)).setCell ⟨w.heap.size, 1, none⟩ (.slice none 0 0)).alloc (.cells #[] 3)) w.heap.size (.slice (some ⟨w2.heap.size, 0, none⟩) 0 0) []) := by
      have hz : ((w2.setCell ⟨w.heap.size, 0, none⟩ (.int .i64 0)).setCell ⟨w.heap.size, 1, none⟩ (.slice none 0 0)).heap.size = w2.heap.size := by simp [World.setCell]
      have h : (((w2.setCell ⟨w.heap.size, 0, none⟩ (.int .i64 0)).setCell ⟨w.heap.size, 1, none⟩ (.slice none 0 0)).alloc (.cells #[] 3)).ownsRow ((w2.setCell ⟨w.heap.size, 0, none⟩ (.int .i64 0)).setCell ⟨w.heap.size, 1, none⟩ (.slice none 0 0)).heap.size 3 1 (.slice (some ⟨((w2.setCell ⟨w.heap.size, 0, none⟩ (.int .i64 0)).setCell ⟨w.heap.size, 1, none⟩ (.slice none 0 0)).heap.size, 0, none⟩) 0 0) 0 (Gr.intsV []) := World.ownsRow_made _ #[] 0 (Nat.le_refl _) (Nat.zero_le _) rfl
      rw [hz] at h
      exact Gr.own_lower b2.size h
    have HY3 : Hid (GBox (((w2.setCell ⟨w.heap.size, 0, none⟩ (.int .i64 0)).setCell ⟨w.heap.size, 1, none⟩ (.slice none 0 0)).alloc (.cells #[] 3)) w.heap.size 0 (.slice none 0 0)) := (y3.two _ _).below (Gr.below_new _ _)
    have HB3 : Hid (Below w.heap.size w (((w2.setCell ⟨w.heap.size, 0, none⟩ (.int .i64 0)).setCell ⟨w.heap.size, 1, none⟩ (.slice none 0 0)).alloc (.cells #[] 3))) := by
      have h := (b2.setCell (p := ⟨w.heap.size, 0, none⟩) (Nat.le_refl _) (.int .i64 0)).setCell (p := ⟨w.heap.size, 1, none⟩) (Nat.le_refl _) (.slice none 0 0)
      exact h.alloc h.size _
    clear hb2 HY1 y3
    go_wp2_with fail
    (try simp only [Exit.inBlock, Exit.then])
    refine bodyPost_ret (results_pool Tryz.results20 _ _ w.heap.size _ _ rfl (unhide HY3)) rfl ?_
    exact ⟨⟨_, _, rfl, unhide HO3, ⟨_, rfl, ⟨rfl, .inl ⟨rfl, rfl⟩⟩⟩⟩, unhide HB3⟩
  | true =>
    rw [hst] at AC SO HOK GA
    rw [Bool.true_and] at HOK
    have AC1 : Hid (∀ w1, Below w.heap.size w w1 → Calls Tryz.prog 18 #[.slice a len cap] w1 fun e w' => (∃ d, e = .returned d ∧ Gr.InOwn w' w1.heap.size d P) ∧ Below w1.heap.size w1 w') := AC
    clear AC
    by_cases h9 : P.length ≤ 9
    · obtain rfl : OK = true := by rw [unhide HOK, decide_eq_true h9]
      obtain rfl : PI = P := by rw [unhide HI0]; rfl
      obtain rfl : PE = allE Q 0 PI := by rw [unhide HE0]; rfl
      have h9i : ¬ (9 : Int) < (PI.length : Int) := by omega
      have GB := hide (fun w1 ap cp hb hI => unhide GA rfl h9 w1 ap cp hb hI)
      obtain ⟨E, hE⟩ : ∃ x, x = allE Q 0 PI := ⟨_, rfl⟩
      rw [← hE] at GB ⊢
      clear hE GA HOK HI0 HE0
      go_enter Tryz.func20, Tryz.ntmps20
      go_wp2_with fail
      rw [← hV]
      clear hV
      refine (unhide AC1 V b0).mono ?_
      rintro e w1 ⟨⟨d, rfl, hO⟩, hb1⟩
      have b1 := b0.trans (hb1.mono b0.size)
      obtain ⟨ap, cp, rfl, _⟩ := hO.at
      have HO1 := hide (Gr.InOwn.lower hO b0.size)
      have HY1 := hide ((unhide HBX).below hb1)
      have HNE : Hid (∀ g, Gr.InBlk (.slice ap PI.length cp) g → w.heap.size < g) := fun g hg => by have h1 := (hO.blk g hg).1; have h2 := (unhide HBX).lt; omega
      clear hO hb1 HBX
      go_wp2_with fail
      refine (unhide SO w1 b1).mono ?_
      rintro e w2 ⟨rfl, hb2⟩
      have b2 := b1.trans (hb2.mono b1.size)
      have HO2 := hide ((unhide HO1).below hb2)
      have HY2 := hide ((unhide HY1).below hb2)
      obtain ⟨ap', cp', e', hI2⟩ := (unhide HO2).at
      simp at e'
      obtain ⟨rfl, rfl⟩ := e'
      clear hb2 HO1 HY1
      go_wp2_with fail
      refine (unhide GB w2 ap cp b2 hI2).mono ?_
      rintro e w3 ⟨⟨dg, rfl, hG⟩, hb3⟩
      obtain ⟨vg, rfl, hgo⟩ := hG
      obtain ⟨ag, cg, rfl⟩ : ∃ a c, vg = .slice a E.length c := by
        rcases hgo.2 with ⟨rfl, h0⟩ | ⟨g, cap, cur, rfl, _⟩
        · exact ⟨none, 0, by rw [h0]⟩
        · exact ⟨_, _, rfl⟩
      have b3 := b2.trans (hb3.mono b2.size)
      have y3 := (unhide HY2).below hb3
      have o3 := (unhide HO2).below hb3
      have hyl := (unhide HY2).lt
      obtain ⟨q0, q1⟩ := y3.cells
      have qf := y3.froz
      have k3 : Kept (fun k => k = w.heap.size) w3 ((w3.setCell ⟨w.heap.size, 0, none⟩ (.int .i64 (PI.length : Int))).setCell ⟨w.heap.size, 1, none⟩ (.slice ag E.length cg)) := (Kept.set (S := fun k => k = w.heap.size) _ _ _ _ rfl).trans (Kept.set (S := fun k => k = w.heap.size) _ _ _ _ rfl)
      have HO3 := hide (o3.kept k3 (fun g hg e => by have := unhide HNE g hg; omega))
      have HY3 : Hid (GBox ((w3.setCell ⟨w.heap.size, 0, none⟩ (.int .i64 (PI.length : Int))).setCell ⟨w.heap.size, 1, none⟩ (.slice ag E.length cg)) w.heap.size (PI.length : Int) (.slice ag E.length cg)) := y3.two _ _
      have HG3 : Hid (GrOwn ((w3.setCell ⟨w.heap.size, 0, none⟩ (.int .i64 (PI.length : Int))).setCell ⟨w.heap.size, 1, none⟩ (.slice ag E.length cg)) w.heap.size (.agg #[.int .i64 (PI.length : Int), .slice ag E.length cg]) (PI.length : Int) E) := ⟨_, rfl, Gr.own_lower b2.size (k3.own hgo (fun k hk e => by have := (hgo.lt k hk).1; omega))⟩
      have HB3 : Hid (Below w.heap.size w ((w3.setCell ⟨w.heap.size, 0, none⟩ (.int .i64 (PI.length : Int))).setCell ⟨w.heap.size, 1, none⟩ (.slice ag E.length cg))) := b3.trans (k3.below b3.size (fun k hk => by omega))
      clear hb3 hgo y3 o3 k3 HY2 HO2 hI2 HNE
      go_wp2_with fail
      (try simp only [Exit.inBlock, Exit.then])
      refine bodyPost_ret (results_pool Tryz.results20 _ _ w.heap.size _ _ rfl (unhide HY3)) rfl ?_
      exact ⟨⟨_, _, rfl, unhide HO3, unhide HG3⟩, unhide HB3⟩
    · obtain rfl : OK = false := by rw [unhide HOK, decide_eq_false h9]
      obtain rfl : PI = [] := by rw [unhide HI0]; rfl
      obtain rfl : PE = [] := by rw [unhide HE0]; rfl
      have h9i : (9 : Int) < (P.length : Int) := by omega
      clear GA HOK HI0 HE0
      go_enter Tryz.func20, Tryz.ntmps20
      go_wp2_with fail
      rw [← hV]
      clear hV
      refine (unhide AC1 V b0).mono ?_
      rintro e w1 ⟨⟨d, rfl, hO⟩, hb1⟩
      have b1 := b0.trans (hb1.mono b0.size)
      obtain ⟨ap, cp, rfl, _⟩ := hO.at
      have HY1 := hide ((unhide HBX).below hb1)
      clear hO hb1 HBX
      go_wp2_with fail
      refine (unhide SO w1 b1).mono ?_
      rintro e w2 ⟨rfl, hb2⟩
      have b2 := b1.trans (hb2.mono b1.size)
      have y3 : GBox w2 w.heap.size 0 (.slice none 0 0) := (unhide HY1).below hb2
      obtain ⟨r0, r1⟩ := ((unhide HY1).below hb2).cells
      have rl := ((unhide HY1).below hb2).lt
      obtain ⟨q0, q1⟩ := y3.cells
      have qf := y3.froz
      have HO3 : Hid (Gr.InOwn (((w2.setCell ⟨w.heap.size, 0, none⟩ (.int .i64 0)).setCell ⟨w.heap.size, 1, none⟩ (.slice none 0 0)).alloc (.cells #[] 3)) w.heap.size (.slice (some ⟨w2.heap.size, 0, none⟩) 0 0) []) := by
        have hz : ((w2.setCell ⟨w.heap.size, 0, none⟩ (.int .i64 0)).setCell ⟨w.heap.size, 1, none⟩ (.slice none 0 0)).heap.size = w2.heap.size := by simp [World.setCell]
        have h : (((w2.setCell ⟨w.heap.size, 0, none⟩ (.int .i64 0)).setCell ⟨w.heap.size, 1, none⟩ (.slice none 0 0)).alloc (.cells #[] 3)).ownsRow ((w2.setCell ⟨w.heap.size, 0, none⟩ (.int .i64 0)).setCell ⟨w.heap.size, 1, none⟩ (.slice none 0 0)).heap.size 3 1 (.slice (some ⟨((w2.setCell ⟨w.heap.size, 0, none⟩ (.int .i64 0)).setCell ⟨w.heap.size, 1, none⟩ (.slice none 0 0)).heap.size, 0, none⟩) 0 0) 0 (Gr.intsV []) := World.ownsRow_made _ #[] 0 (Nat.le_refl _) (Nat.zero_le _) rfl
        rw [hz] at h
        exact Gr.own_lower b2.size h
      have HY3 : Hid (GBox (((w2.setCell ⟨w.heap.size, 0, none⟩ (.int .i64 0)).setCell ⟨w.heap.size, 1, none⟩ (.slice none 0 0)).alloc (.cells #[] 3)) w.heap.size 0 (.slice none 0 0)) := (y3.two _ _).below (Gr.below_new _ _)
      have HB3 : Hid (Below w.heap.size w (((w2.setCell ⟨w.heap.size, 0, none⟩ (.int .i64 0)).setCell ⟨w.heap.size, 1, none⟩ (.slice none 0 0)).alloc (.cells #[] 3))) := by
        have h := (b2.setCell (p := ⟨w.heap.size, 0, none⟩) (Nat.le_refl _) (.int .i64 0)).setCell (p := ⟨w.heap.size, 1, none⟩) (Nat.le_refl _) (.slice none 0 0)
        exact h.alloc h.size _
      clear hb2 HY1 y3
      go_wp2_with fail
      (try simp only [Exit.inBlock, Exit.then])
      refine bodyPost_ret (results_pool Tryz.results20 _ _ w.heap.size _ _ rfl (unhide HY3)) rfl ?_
      exact ⟨⟨_, _, rfl, unhide HO3, ⟨_, rfl, ⟨rfl, .inl ⟨rfl, rfl⟩⟩⟩⟩, unhide HB3⟩
end Rg
end Go.Proofs.YtihnaddfpmjpaaaGreatDoor
