/-
  impl.CutItems answers as the specification; it writes into no argument and keeps nothing of one; its answer owns its memory.
-/
import Derived.Test.YtdmcnojhjmadjaaRows
import Derived.Test.YtdmcnojhjmadjaaTrCutAll
import Derived.Test.YtdmcnojhjmadjaaTrCutSpec
import Derived.Test.YtdmcnojhjmadjaaTrGrpMark
import Derived.Test.YtdmcnojhjmadjaaPgOpen
import Derived.Test.YtdmcnojhjmadjaaChecked
import Derived.Deep.RegionHeld3
import Derived.ShutString
import Derived.Below
namespace Go.Proofs.Ytdmcnojhjmadjaa.fnExactCutItems
open Go.Proofs.Ytdmcnojhjmadjaa.Pg
open Go.ChangeShapes Go.WideShapes Go.ChangeAt Go.RowKit
open Go.ChangeMaps (open_string shut_string)

theorem own : ownKnob Try.prog.godebug = none := by kernel_rfl

theorem laidOut : laidOutB Try.prog = true := by kernel_rfl
theorem len_flat {α : Type} (G : List (List α)) (g : List α) (h : g ∈ G) : g.length ≤ G.flatten.length := by
  induction G with
  | nil => cases h
  | cons y G ih =>
    rw [List.flatten_cons, List.length_append]
    rcases List.mem_cons.1 h with rfl | h
    · omega
    · have := ih h; omega

theorem own_cap {w : World} {B e s n c : Nat} {A : Option Addr} {xs : List Value} (h : w.ownsRow B e s (.slice A n c) n xs) : n ≤ c := by
  rcases h.2 with ⟨_, h0⟩ | ⟨g, cap, cur, e1, _, _, h1, _⟩
  · omega
  · simp at e1
    omega

set_option maxRecDepth 100000 in
set_option maxHeartbeats 2000000 in
theorem walk (kd : Int) (a : Option Addr) (n c : Nat) (Q : List It) (w : World) (hz : ItemsAt w a n w.heap.size Q) (hl : Q.length ≤ 9223372036854775807) (hm : ∀ q ∈ Q, ItSane q) :
    Calls Try.prog 4 #[.int .i64 kd, .slice a n c] w fun e w' => e = .returned (.bool true) ∧ Below w.heap.size w w' := by
  have HZ := hide hz
  have HN : Hid (n = Q.length) := hz.1.symm
  have SZ := hide (szItems_any a n c w.heap.size Q 1048576 (by omega) (by omega) (by have := unhide HN; omega) hm w (Nat.le_refl _) hz)
  clear hz hm
  go_enter Try.func4, Try.ntmps4
  go_wp2_with fail
  refine (unhide SZ).mono ?_
  rintro e w2 ⟨⟨x, rfl, hx0, hx1, hx2⟩, hb2⟩
  have HX := hide hx2
  have hc2 := hb2
  have hz2 := hb2.size
  clear hx2 SZ hb2
  by_cases hneg : x < 0
  · go_wp2
    go_ret
    exact ⟨rfl, hc2⟩
  · have htot := unhide HX (by omega)
    have hl1 : n ≤ 1048576 := by have := unhide HN; omega
    have hsm : ∀ x ∈ Q, x.key.size ≤ 1048576 ∧ x.val.size ≤ 1048576 := fun x hx => by have := totI_mem hx; omega
    have TO := hide (fun w1 (hb : Below w.heap.size w w1) => toItems_any a n c w.heap.size Q hl1 w1 hb.size ((unhide HZ).below hb (Nat.le_refl _)))
    have EI := hide (fun w1 a1 c1 a2 c2 (h1 : ItemsAt w1 a1 n w1.heap.size Q) (h2 : ItemsAt w1 a2 n w1.heap.size Q) => eqItems_same a1 a2 n c1 c2 w1.heap.size w1.heap.size Q hl1 w1 (Nat.le_refl _) (Nat.le_refl _) h1 h2)
    have SP := hide (fun w1 a1 c1 (h1 : ItemsAt w1 a1 n w1.heap.size Q) => Tr.specCut_any kd a1 n c1 w1.heap.size Q hl1 hsm w1 (Nat.le_refl _) h1)
    have IM := hide (fun w1 a1 c1 (hc : n ≤ c1) (h1 : ItemsAt w1 a1 n w1.heap.size Q) => Tr.implCut_any kd a1 n c1 w1.heap.size Q hl1 hc hsm w1 (Nat.le_refl _) h1)
    have hGl := Tr.cutG_length kd Q
    have hGf := Tr.cutG_flat kd Q
    have hGs : ∀ g ∈ Tr.cutG kd Q, g.length ≤ 1048576 := fun g hg => by
      have h1 : g.length ≤ (Tr.cutG kd Q).flatten.length := len_flat _ g hg
      rw [hGf] at h1
      have := unhide HN
      omega
    have MI := hide (fun w1 B v (ho : w1.ownsRow B 68 3 v n (itsV Q)) => markItems_any v B n 1 Q (by omega) (by omega) w1 ho)
    have hki : ¬ ((1 + n * 3 : Nat) : Int) < 0 := by omega
    obtain ⟨ki, hkie⟩ : ∃ k : Nat, k = 1 + n * 3 := ⟨_, rfl⟩
    rw [← hkie] at MI hki
    generalize Tr.cutG kd Q = G at SP IM hGl hGf hGs
    have hGn : G.length ≤ 1048576 := by have := unhide HN; omega
    have hfl : G.flatten.length * 3 = n * 3 := by rw [hGf, unhide HN]
    have EG := hide (fun w1 v v' vs vs' B B' C C' (h : Tr.Grps w1 B C v vs G) (h' : Tr.Grps w1 B' C' v' vs' G) => Tr.eqGrps_same v v' vs vs' B B' C C' G hGn hGs w1 h h')
    have MG := hide (fun w1 v vs B C (hd : Tr.Dist vs) (h : Tr.Grps w1 B C v vs G) => Tr.markGrps_any v vs B C 1 G (by omega) (by omega) hGn hd w1 h)
    have HG := hide (fun w1 v vs B C (h : Tr.Grps w1 B C v vs (Tr.mixG 1 G G.length)) => Tr.heldGrps_any v vs B C 1 G (by omega) (by omega) hGn w1 h)
    rw [hfl] at MG HG
    rw [← hkie] at MG HG
    obtain ⟨gl, hgl⟩ : ∃ g, g = G.length := ⟨_, rfl⟩
    have HGL := hide hgl
    clear hkie htot hl1 hx0 hx1 HX hGl hGf hGs hGn hfl hsm hl hgl
    go_wp2_with fail
    refine (unhide TO w2 hc2).mono ?_
    rintro e w3 ⟨⟨d9, rfl, ho9⟩, hb3⟩
    have hc3 : Below w.heap.size w w3 := hc2.trans (hb3.mono hc2.size)
    have hz3 := hb3.size
    obtain ⟨j9, l9, rfl, hj9⟩ := ItemsAt.of_own ho9
    have S1 := hide (unhide SP w3 j9 l9 hj9)
    clear ho9 hj9 hb3
    go_wp2_with fail
    refine (unhide S1).mono ?_
    rintro e w4 ⟨⟨r0, vs0, rfl, hg0⟩, hb4⟩
    have hc4 : Below w.heap.size w w4 := hc3.trans (hb4.mono hc3.size)
    have hz4 := hb4.size
    have HG0 := hide hg0
    have HK0 := hide hg0.blk
    obtain ⟨A0, C0, er0⟩ := Tr.row_shape hg0.2.1
    rw [← unhide HGL] at er0
    subst er0
    clear hg0 hb4 S1
    go_wp2_with fail
    refine (unhide TO w4 hc4).mono ?_
    rintro e w5 ⟨⟨i1, rfl, hi1⟩, hb5⟩
    have HG0 := hide ((unhide HG0).below hb5)
    have hc5 : Below w.heap.size w w5 := hc4.trans (hb5.mono hc4.size)
    have hz5 := hb5.size
    have HI := hide hi1
    have HKI := hide hi1.lt
    obtain ⟨j1, l1, rfl, hj1⟩ := ItemsAt.of_own hi1
    have hcap := own_cap hi1
    have S3 := hide (unhide IM w5 j1 l1 hcap hj1)
    clear hi1 hj1 hb5 hcap
    go_wp2_with fail
    refine (unhide S3).mono ?_
    rintro e w6 ⟨⟨r2, vs2, rfl, hg2, hd2⟩, hb6⟩
    have HG0 := hide ((unhide HG0).below hb6)
    have HI := hide (own_below (unhide HI) hb6)
    have hc6 : Below w.heap.size w w6 := hc5.trans (hb6.mono hc5.size)
    have hz6 := hb6.size
    have HG2 := hide hg2
    have HK2 := hide hg2.blk
    have HD2 := hide hd2
    clear hd2
    obtain ⟨A2, C2, er2⟩ := Tr.row_shape hg2.2.1
    rw [← unhide HGL] at er2
    subst er2
    clear hg2 hb6 S3
    go_wp2_with fail
    refine (unhide EG w6 _ _ _ _ _ _ _ _ (unhide HG2) (unhide HG0)).mono ?_
    rintro e w7 ⟨rfl, hb7⟩
    have HG0 := hide ((unhide HG0).below hb7)
    have HI := hide (own_below (unhide HI) hb7)
    have HG2 := hide ((unhide HG2).below hb7)
    have hc7 : Below w.heap.size w w7 := hc6.trans (hb7.mono hc6.size)
    have hz7 := hb7.size
    clear hb7
    go_wp2_with fail
    refine (unhide TO w7 hc7).mono ?_
    rintro e w8 ⟨⟨i8, rfl, hi8⟩, hb8⟩
    have HG0 := hide ((unhide HG0).below hb8)
    have HI := hide (own_below (unhide HI) hb8)
    have HG2 := hide ((unhide HG2).below hb8)
    have hc8 : Below w.heap.size w w8 := hc7.trans (hb8.mono hc7.size)
    have hz8 := hb8.size
    obtain ⟨j8, l8, rfl, hj8⟩ := ItemsAt.of_own hi8
    have S4 := hide (unhide EI w8 j1 l1 j8 l8 (by obtain ⟨a, c, e, h⟩ := ItemsAt.of_own (unhide HI); simp at e; obtain ⟨rfl, rfl⟩ := e; exact h) hj8)
    clear hi8 hj8 hb8
    go_wp2_with fail
    refine (unhide S4).mono ?_
    rintro e w9 ⟨rfl, hb9⟩
    have HG0 := hide ((unhide HG0).below hb9)
    have HI := hide (own_below (unhide HI) hb9)
    have HG2 := hide ((unhide HG2).below hb9)
    have hc9 : Below w.heap.size w w9 := hc8.trans (hb9.mono hc8.size)
    have hz9 := hb9.size
    clear hb9 S4
    go_wp2_with fail
    refine (unhide MI w9 _ _ (unhide HI)).mono ?_
    rintro e w10 ⟨rfl, how10, hkw10⟩
    have HG0 := hide ((unhide HG0).kept hkw10 (fun g h0 h1 => by have h2 := (unhide HK0).1 g h0; have h3 := unhide HKI g h1; omega) (fun j hj g h0 h1 => by have h2 := (unhide HK0).2 j hj g h0; have h3 := unhide HKI g h1; omega))
    have HG2 := hide ((unhide HG2).kept hkw10 (fun g h0 h1 => by have h2 := (unhide HK2).1 g h0; have h3 := unhide HKI g h1; omega) (fun j hj g h0 h1 => by have h2 := (unhide HK2).2 j hj g h0; have h3 := unhide HKI g h1; omega))
    have HI := hide how10
    have hc10 : Below w.heap.size w w10 := hc9.trans (hkw10.below hc9.size (fun g h1 => by have h3 := unhide HKI g h1; omega))
    have hz10 := hkw10.2.2.2.1
    clear how10 hkw10
    go_wp2_with fail
    refine (unhide EG w10 _ _ _ _ _ _ _ _ (unhide HG2) (unhide HG0)).mono ?_
    rintro e w11 ⟨rfl, hb11⟩
    have HG0 := hide ((unhide HG0).below hb11)
    have HI := hide (own_below (unhide HI) hb11)
    have HG2 := hide ((unhide HG2).below hb11)
    have hc11 : Below w.heap.size w w11 := hc10.trans (hb11.mono hc10.size)
    have hz11 := hb11.size
    clear hb11
    go_wp2_with fail
    refine (unhide MG w11 _ _ _ _ (unhide HD2) (unhide HG2)).mono ?_
    rintro e w12 ⟨rfl, how12, hkw12⟩
    have HG0 := hide ((unhide HG0).kept hkw12 (fun g h0 h1 => by have h2 := (unhide HK0).1 g h0; obtain ⟨j3, hj3, e3⟩ := h1; have h3 := (unhide HK2).2 j3 hj3 g e3; omega) (fun j hj g h0 h1 => by have h2 := (unhide HK0).2 j hj g h0; obtain ⟨j3, hj3, e3⟩ := h1; have h3 := (unhide HK2).2 j3 hj3 g e3; omega))
    have HI := hide (hkw12.own (unhide HI) (fun g h0 h1 => by have h2 := unhide HKI g h0; obtain ⟨j3, hj3, e3⟩ := h1; have h3 := (unhide HK2).2 j3 hj3 g e3; omega))
    have HG2 := hide how12
    have hc12 : Below w.heap.size w w12 := hc11.trans (hkw12.below hc11.size (fun g h1 => by obtain ⟨j3, hj3, e3⟩ := h1; have h3 := (unhide HK2).2 j3 hj3 g e3; omega))
    have hz12 := hkw12.2.2.2.1
    clear how12 hkw12
    go_wp2_with fail
    refine (unhide HG w12 _ _ _ _ (unhide HG2)).mono ?_
    rintro e w13 ⟨rfl, hb13⟩
    have HG0 := hide ((unhide HG0).below hb13)
    have HI := hide (own_below (unhide HI) hb13)
    have HG2 := hide ((unhide HG2).below hb13)
    have hc13 : Below w.heap.size w w13 := hc12.trans (hb13.mono hc12.size)
    have hz13 := hb13.size
    clear hb13
    go_wp2_with fail
    refine (unhide TO w13 hc13).mono ?_
    rintro e w14 ⟨⟨i3, rfl, hi3⟩, hb14⟩
    have HG0 := hide ((unhide HG0).below hb14)
    have HI := hide (own_below (unhide HI) hb14)
    have HG2 := hide ((unhide HG2).below hb14)
    have hc14 : Below w.heap.size w w14 := hc13.trans (hb14.mono hc13.size)
    have hz14 := hb14.size
    obtain ⟨j3, l3, rfl, hj3⟩ := ItemsAt.of_own hi3
    have hcap := own_cap hi3
    have S7 := hide (unhide IM w14 j3 l3 hcap hj3)
    clear hi3 hj3 hb14 hcap
    go_wp2_with fail
    refine (unhide S7).mono ?_
    rintro e w15 ⟨⟨r4, vs4, rfl, hg4, hd4⟩, hb15⟩
    have HG0 := hide ((unhide HG0).below hb15)
    have HI := hide (own_below (unhide HI) hb15)
    have HG2 := hide ((unhide HG2).below hb15)
    have hc15 : Below w.heap.size w w15 := hc14.trans (hb15.mono hc14.size)
    have hz15 := hb15.size
    have HG4 := hide hg4
    have HK4 := hide hg4.blk
    have HD4 := hide hd4
    clear hd4
    obtain ⟨A4, C4, er4⟩ := Tr.row_shape hg4.2.1
    rw [← unhide HGL] at er4
    subst er4
    clear hg4 hb15 S7
    go_wp2_with fail
    refine (unhide EG w15 _ _ _ _ _ _ _ _ (unhide HG4) (unhide HG0)).mono ?_
    rintro e w16 ⟨rfl, hb16⟩
    have HG0 := hide ((unhide HG0).below hb16)
    have HI := hide (own_below (unhide HI) hb16)
    have HG2 := hide ((unhide HG2).below hb16)
    have HG4 := hide ((unhide HG4).below hb16)
    have hc16 : Below w.heap.size w w16 := hc15.trans (hb16.mono hc15.size)
    have hz16 := hb16.size
    clear hb16
    go_wp2_with fail
    refine (unhide HG w16 _ _ _ _ (unhide HG2)).mono ?_
    rintro e w17 ⟨rfl, hb17⟩
    have HG0 := hide ((unhide HG0).below hb17)
    have HI := hide (own_below (unhide HI) hb17)
    have HG2 := hide ((unhide HG2).below hb17)
    have HG4 := hide ((unhide HG4).below hb17)
    have hc17 : Below w.heap.size w w17 := hc16.trans (hb17.mono hc16.size)
    have hz17 := hb17.size
    clear hb17
    go_wp2
    go_ret
    exact ⟨rfl, hc17⟩

set_option maxRecDepth 100000 in
theorem lifted (os : Os) (started : os.Started) (H : Type) (enc : TypeId × Value → H) :
    ReturnsInHanded {} Try.checked os 4 .any (Rows.fnExactCutItemsSpec.pre6 enc Try.prog Try.f4 Rows.fnExactCutItemsRow.domain false) (Rows.fnExactCutItemsSpec.post enc Try.prog Try.f4 false true false false) := by
  refine returnsInHanded_of_change (C := Try.checked) own started (by kernel_rfl) Try.func4
    (ChangeSpec.witness6 (enc := enc) (C := Try.checked) false ⟨#[], #[.int .i64 0, .slice none 0 0], []⟩ 8 (by kernel_rfl) (by kernel_rfl) (by kernel_rfl) (by kernel_rfl)) ?_
  intro W base args ds gs before hval0 hW _ _
  have hval : ∀ (j : Nat) t v, Try.f4.params[j]? = some t → args[j]? = some v → Value.okWide Try.prog W .any base t v := hval0
  have hW' := hW
  obtain ⟨p, q, hA0, hV, rfl, hfz, hnd⟩ := hW
  have hA : DataW.TrodAll enc Try.prog W 0 (fun _ => true) true Try.f4.params.toList args.toList ds p := hA0
  rw [Try.params4] at hA hval
  obtain ⟨v0, vs0, d0, ds0, p0, q0, hargs, rfl, rfl, h0, r0⟩ := trodAll_cons hA
  obtain ⟨v1, vs1, d1, ds1, p1, q1, rfl, rfl, rfl, h1, r1⟩ := trodAll_cons r0
  obtain ⟨rfl, rfl, rfl⟩ := trodAll_nil r1
  obtain rfl : args = #[v0, v1] := by cases args; simp_all
  obtain ⟨rfl, rfl⟩ := trodVars_none hV
  obtain ⟨a0, rfl, rfl, rfl, m0⟩ := open_int Try.underlying3 (hval 0 3 v0 rfl rfl) h0
  have k1 := h1
  have lt1 : ∀ x ∈ p1, x.block < W.heap.size := by obtain ⟨m, hm⟩ := k1; exact DataW.trod_lt m _ _ _ hm
  obtain ⟨a1, len1, cap1, rfl⟩ := okWide_slice Try.underlying29 (hval 1 29 v1 rfl rfl)
  obtain ⟨z1, hz1, nl1, wz1⟩ : ∃ K, ItemsAt W a1 len1 W.heap.size K ∧ K.length ≤ 9223372036854775807 ∧ ∀ q ∈ K, ItSane q := by
    obtain ⟨fuel, hf⟩ := h1
    obtain ⟨a, n, c, K, hcs, hK, hn, hw⟩ := items_open (fun _ => rfl) hf
    simp at hcs
    obtain ⟨rfl, rfl, rfl⟩ := hcs
    exact ⟨K, hK, hn, hw⟩
  clear hA0 hval0
  refine (walk a0 a1 len1 cap1 z1 W hz1 nl1 wz1).mono fun e W' ⟨he, bel⟩ => ?_
  subst he
  exact ⟨_, rfl, _, _, _, [], _, [], hW', trodAll_mk1 (shut_bool Try.underlying4 _), (trodAll_cons_mk (shut_int Try.underlying3 m0) (trodAll_cons_mk (Below.trod laidOut (by kernel_rfl) (of_decide_eq_true (by kernel_rfl)) k1 bel lt1) trodAll_mk0)), rfl, bel.frame _, fun h => by cases h⟩

theorem over : Rows.fnExactCutItemsRow.holds Try.pinned (OpenSpec.ofChange Rows.fnExactCutItemsSpec) :=
  OpenClaim.holds_of_wide 4 Try.f4 rfl rfl rfl rfl rfl rfl rfl ⟨rfl, rfl, rfl, rfl, rfl⟩ rfl rfl rfl rfl rfl (by kernel_rfl) Try.func4 (by kernel_rfl)
    (of_decide_eq_true (by kernel_rfl)) (by unfold Func.isWrapper; first | (rw [if_pos (by decide +kernel)]; kernel_rfl) | (rw [if_neg (by decide +kernel)]; exact ⟨rfl, rfl⟩))
    (fun os started H enc _ => lifted os started H enc)

end Go.Proofs.Ytdmcnojhjmadjaa.fnExactCutItems
namespace Go.Proofs.Ytdmcnojhjmadjaa
theorem fnExactCutItems_holds : Rows.FnExactCutItemsSaid := fnExactCutItems.over
#print axioms fnExactCutItems_holds
end Go.Proofs.Ytdmcnojhjmadjaa
