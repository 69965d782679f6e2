/-
 CyA4, CyAL.
-/
import Derived.Test.YtihnaddfpmjpaaaGreatDoorJ46
import Derived.Test.YtihnaddfpmjpaaaGreatDoorJ48
import Derived.Maps.AppendAt
import Derived.Deep.RegionHeld3
import Derived.Deep.AppendLies
import Derived.Test.YtihnaddfpmjpaaaGreatDoorJ43
namespace Go.Proofs.YtihnaddfpmjpaaaGreatDoor
namespace Cy
open Go.RowKit
open Rg
open Gr (EdgeI AskI asksV InAt InOwn intsV own_below own_lower below_new Kept GrOwn Blk edgesAt PaAt pasize pasize_le AksOwn)
theorem e_form {Q : PL} (hst : stateOk Q = true) : ∀ q ∈ Q, isE q = true → q.1.size = 5 ∧ q.2.size = 3 := fun p hp he => by
  obtain ⟨R, _, I, _, _, _⟩ := reg_inv hst
  have hE : byteAt p.1 0 = 101 := of_decide_eq_true he
  rcases I.f p hp with ⟨a, h3, h4, _⟩ | ⟨a, b, h3, h4, h5, h6⟩ | ⟨a, h3, h4, h5⟩ | ⟨a, b, h3, h4, h5, h6⟩
  · rw [h4, k1_byte _ a (by omega)] at hE; exact absurd hE (by decide)
  · exact ⟨by rw [h5]; exact k2_size _ a b (by omega) (by omega), h6⟩
  · rw [h5, k1_byte _ a h3] at hE; exact absurd hE (by decide)
  · rw [h6, k2_byte _ a b h3 h4] at hE; exact absurd hE (by decide)
def linksT (Q : PL) (j : Nat) : List AskI := linksS (Q.take j)
theorem linksT_in {Q : PL} {j : Nat} (h : j < Q.length) (he : isE Q[j] = true) : linksT Q (j + 1) = linksT Q j ++ [askE Q[j]] := by
  unfold linksT linksS
  rw [List.take_succ_eq_append_getElem h, List.filter_append, List.map_append]
  simp [he]
theorem linksT_out {Q : PL} {j : Nat} (h : j < Q.length) (he : isE Q[j] = false) : linksT Q (j + 1) = linksT Q j := by
  unfold linksT linksS
  rw [List.take_succ_eq_append_getElem h, List.filter_append, List.map_append]
  simp [he]
theorem linksT_length (Q : PL) (j : Nat) : (linksT Q j).length ≤ j := by
  unfold linksT linksS
  rw [List.length_map]
  have h1 := List.length_filter_le isE (Q.take j)
  have h2 := List.length_take_le j Q
  omega
theorem linksT_all (Q : PL) : linksT Q Q.length = linksS Q := by unfold linksT; rw [List.take_length]
set_option maxRecDepth 100000 in
set_option maxHeartbeats 8000000 in
theorem specAsks_gen (B : Nat) (v : Value) (Q : PL) (h1 : pasize Q ≤ 1048576) (w : World) (hB : B ≤ w.heap.size) (hv : PaAt w v B Q) :
    Calls Tryz.prog 30 #[v] w fun e w' => (∃ d, e = .returned (.tuple #[d, .bool (asksB Q)]) ∧ AksOwn w' w.heap.size d (asksQ Q)) ∧ Below w.heap.size w w' := by
  obtain ⟨i0, hi, hz0, hz1, hz2⟩ := info_parts Gr.infoAsk
  obtain ⟨a, c, rfl, hs, _⟩ := hv
  have hQl := (pasize_le h1).1
  have hX : asksB Q = (stateOk Q && decide (rnds Q = 0)) := rfl
  have hNO : Hid (asksB Q = false → asksQ Q = []) := fun h => by
    unfold asksB at h
    unfold asksQ
    rw [if_neg]
    rintro ⟨a1, a2⟩
    rw [a1, decide_eq_true a2] at h
    cases h
  have HAS : Hid (stateOk Q = true → rnds Q = 0 → asksQ Q = eachA 1 (idsP [] Q) ++ linksS Q ++ eachA 3 (idsP [108] Q)) := fun a1 a2 => by unfold asksQ; rw [if_pos ⟨a1, a2⟩]
  have HMP : Hid (stateOk Q = true → Q.length ≤ 1000 ∧ ∀ q ∈ Q, 1 ≤ q.1.size ∧ q.1.size ≤ 8) := fun hst => by
    unfold stateOk at hst
    simp only [Bool.and_eq_true, decide_eq_true_eq] at hst
    exact ⟨by have := hst.1.1; omega, fun q hq => ⟨(map_pair hst.1 q hq).1, (map_pair hst.1 q hq).2.1⟩⟩
  have HEF : Hid (stateOk Q = true → ∀ q ∈ Q, isE q = true → q.1.size = 5 ∧ q.2.size = 3) := fun h => e_form h
  have V0A : Hid (AkOwn (w.alloc (.cells #[] 77)) w.heap.size (.slice (some ⟨w.heap.size, 0, none⟩) 0 0) []) := World.ownsRow_made w (e := 77) (size := 6) #[] 0 (by omega) (Nat.zero_le _) rfl
  obtain ⟨V, hV⟩ : ∃ V, V = w.alloc (.cells #[] 77) := ⟨_, rfl⟩
  have bV : Below w.heap.size w V := by rw [hV]; exact below_new _ _
  rw [← hV] at V0A
  have hQs := hide hs
  have SO := hide (state_any a Q.length c B Q hQl V (by have := bV.size; omega) (hs.below bV hB))
  generalize asksQ Q = X at hNO HAS ⊢
  generalize asksB Q = xb at hX hNO ⊢
  generalize hst : stateOk Q = st at SO hX HAS HMP HEF
  clear hs hst
  go_enter Tryz.func30, Tryz.ntmps30
  go_wp2_with fail
  rw [← hV]
  clear hV
  refine (unhide SO).mono ?_
  rintro e w1 ⟨rfl, hb1⟩
  have b1 : Below w.heap.size w w1 := bV.trans (hb1.mono bV.size)
  have hO1 := own_below (unhide V0A) hb1
  cases st with
  | false =>
    rw [Bool.false_and] at hX
    have hX2 := unhide hNO hX
    subst hX hX2
    go_wp2
    go_returns
    exact ⟨⟨_, rfl, hO1⟩, b1⟩
  | true =>
    rw [Bool.true_and] at hX
    have hm := unhide HMP rfl
    have RN := hide (rounds_any a Q.length c B Q hm.1 w1 (by have := b1.size; omega) ((unhide hQs).below b1 hB))
    have HO1 := hide hO1
    clear hO1 V0A SO
    by_cases hn0 : rnds Q = 0
    · have hXe := unhide HAS rfl hn0
      rw [decide_eq_true hn0] at hX
      subst hX
      rw [hn0] at RN
      go_wp2_with fail
      refine (unhide RN).mono ?_
      rintro e w2 ⟨rfl, hb2⟩
      have b2 : Below w.heap.size w w2 := b1.trans (hb2.mono b1.size)
      have HO2 := hide (own_below (unhide HO1) hb2)
      have IA := hide (ids_all a Q.length c B Q hQl hm.2 w2 (by have := b2.size; omega) ((unhide hQs).below b2 hB))
      have IL : Hid (∀ W, Below w.heap.size w W → Calls Tryz.prog 37 #[.slice a Q.length c, .string ⟨#[108]⟩] W fun e w' => (∃ d, e = .returned d ∧ w'.ownsRow W.heap.size 3 1 d (idsP [108] Q).length (intsV (idsP [108] Q))) ∧ Below W.heap.size W w') := fun W hW => by
        have e108 : (⟨#[108]⟩ : ByteArray).toList = [108] := by rw [ByteArray.toList_eq]
        have h := ids_word a Q.length c B Q ⟨#[108]⟩ (by rw [e108]; simp) hQl hm.2 W (by have := hW.size; omega) ((unhide hQs).below hW hB)
        rw [e108] at h
        exact h
      have hP1 : (idsP [] Q).length ≤ 1000 := Nat.le_trans (ids_short [] Q) hm.1
      have hL1 : (idsP [108] Q).length ≤ 1000 := Nat.le_trans (ids_short [108] Q) hm.1
      have HSZ := hide (fun q hq => (hm.2 q hq).1)
      have HEF2 := hide (unhide HEF trivial)
      have hQ1 := hm.1
      generalize idsP [] Q = P at IA hXe hP1
      generalize idsP [108] Q = L at IL hXe hL1
      have HXE := hide hXe
      clear RN HO1 hb1 hb2 HEF HMP HAS hNO hXe hn0 b1 hm
      go_wp2_with fail
      refine (unhide IA).mono ?_
      rintro e w3 ⟨⟨dp, rfl, hop⟩, hb3⟩
      obtain ⟨pa, pc, rfl, _⟩ := Gr.intsAt_of_own hop
      have b3 : Below w.heap.size w w3 := b2.trans (hb3.mono b2.size)
      have hzw2 : w.heap.size ≤ w2.heap.size := b2.size
      have HO3 := hide (own_below (unhide HO2) hb3)
      have HP3 := hide hop
      have HD3 : Hid (∀ g, (Value.slice (some ⟨w.heap.size, 0, none⟩) 0 0).ownBlock = some g → (Value.slice pa P.length pc).ownBlock ≠ some g) := fun g h e => by
        have h2 := (hop.lt g e).1
        have h3 := ((unhide HO2).lt g h).2
        omega
      have HS1 := hide (fun k h => each_snoc 1 P k h)
      have HN1 := hide (fun k h => each_length 1 P k h)
      have HS3 := hide (fun k h => each_snoc 3 L k h)
      have HN3 := hide (fun k h => each_length 3 L k h)
      clear IA hop HO2 hb3
      go_wp2_with fail
      obtain ⟨K0, hK0⟩ : ∃ K0 : List AskI, K0 = [] := ⟨_, rfl⟩
      have hK0l : K0.length ≤ 0 := by rw [hK0]; exact Nat.le_refl _
      have HK0 := hide hK0
      clear hK0
      go_loopw [4, 6] (fun out i wr => ∃ (k : Nat), i = .int .i64 (k : Int) ∧ k ≤ P.length ∧ Hid (AkOwn wr w.heap.size out (K0 ++ eachA 1 (P.take k))) ∧ Hid (wr.ownsRow w2.heap.size 3 1 (.slice pa P.length pc) P.length (intsV P)) ∧ Hid (∀ g, out.ownBlock = some g → (Value.slice pa P.length pc).ownBlock ≠ some g) ∧ Below w.heap.size w wr) (fun _ i _ => P.length - (intOf i).toNat)
      case atStart => exact ⟨0, rfl, Nat.zero_le _, (by rw [List.take_zero, unhide HK0]; exact unhide HO3), unhide HP3, unhide HD3, b3⟩
      case round =>
        obtain ⟨k, rfl, hk, HO, HP, HD, hb⟩ := hrel
        obtain ⟨A, C, rfl⟩ := AkOwn.shape (unhide HO)
        by_cases hlt : k < P.length
        · obtain ⟨_, _, hsh, hat⟩ := Gr.intsAt_of_own (unhide HP)
          obtain ⟨b, off, e0, hbB, dk⟩ := hat.2 k hlt
          simp only [Value.slice.injEq] at hsh
          obtain ⟨hsa, _, hsc⟩ := hsh
          rw [← hsa] at e0
          subst e0
          have hki : (k : Int) < ((P.length : Nat) : Int) := by omega
          have HSK := hide (unhide HS1 k hlt)
          generalize P[k] = x at dk HSK
          have hown := unhide HO
          unfold AkOwn at hown
          have hfl := unhide HN1 k hk
          have hfl2 := unhide HN1 (k + 1) (by omega)
          have hpl := unhide HP
          obtain ⟨m, hm⟩ : ∃ m, m = (K0 ++ eachA 1 (P.take k)).length := ⟨_, rfl⟩
          have hm2 := hm
          rw [List.length_append, hfl] at hm2
          have hdm := unhide HD
          rw [← hm] at hown hdm ⊢
          have HDM := hide hdm
          have HM2 := hide hm2
          have hmb : m ≤ 4000 := by omega
          clear hsa hsc hat hm hm2 hdm
          go_wp2_with (at_builtin; refine wpList_append_own_at _ rfl _ _ 45 rfl w.heap.size 77 i0 (.agg #[.int .i64 0, .int .i64 0, .int .i64 0, .int .i64 0, .int .i64 0, .int .i64 0]) 6 48 Tryz.underlying45 hi hz0 hz1 hz2 rfl (by decide) _ _ _ rfl (hown.alloc _) ⟨wr.heap.size, 0, none⟩ 1 1 [.int .i64 1, .int .i64 x, .int .i64 0, .int .i64 0, .int .i64 0, .int .i64 0] rfl rfl (news6 _ _ _ _ _ _ _ _) (six_one _ _ _ _ _ _) ?_ ?_ ?_ ?_)
          · unfold maxLen; omega
          · omega
          · have := hb.size; simp; omega
          intro v' w7 hown' hgrow _ hat
          have hb7 := below_append hb (Nat.le_refl _) hown hgrow
          have hk7 := Gr.Kept.of_grown hgrow
          have hsn : asksV (K0 ++ eachA 1 (P.take k)) ++ [.int .i64 1, .int .i64 x, .int .i64 0, .int .i64 0, .int .i64 0, .int .i64 0] = asksV (K0 ++ eachA 1 (P.take (k + 1))) := by rw [unhide HSK, ← List.append_assoc]; exact (Gr.asksV_snoc _ ⟨1, x, 0, 0, 0, 0⟩).symm
          rw [hsn] at hown'
          have HO7 : Hid (AkOwn w7 w.heap.size v' (K0 ++ eachA 1 (P.take (k + 1)))) := by
            show AkOwn _ _ _ _
            unfold AkOwn
            rw [show (K0 ++ eachA 1 (P.take (k + 1))).length = m + 1 by rw [List.length_append, hfl2]; have := unhide HM2; omega]
            exact hown'
          have HP7 : Hid (w7.ownsRow w2.heap.size 3 1 (.slice (some ⟨b, off, none⟩) P.length pc) P.length (intsV P)) := hk7.own (own_below hpl (below_new _ _)) (fun g hg hS => unhide HDM g hS hg)
          have HD7 : Hid (∀ g, v'.ownBlock = some g → (Value.slice (some ⟨b, off, none⟩) P.length pc).ownBlock ≠ some g) := fun g hg hp => by
            rcases hat with e | e
            · exact unhide HDM g (by rw [← e]; exact hg) hp
            · rw [e] at hg
              have h8 := (hpl.lt g hp).2
              simp at hg
              omega
          clear hown' hgrow hown hsn HO HSK dk hk7 hat HP HD HDM HM2 hpl
          go_wp2_with fail
          exact ⟨⟨k + 1, by go_num, by omega, HO7, HP7, HD7, hb7⟩, by simp [intOf]; omega⟩
        · obtain rfl : k = P.length := by omega
          have HOE : Hid (AkOwn wr w.heap.size (.slice A (K0 ++ eachA 1 (P.take P.length)).length C) (eachA 1 P)) := by
            have h := unhide HO
            rw [List.take_length, unhide HK0, List.nil_append] at h ⊢
            exact h
          have hAl : (K0 ++ eachA 1 (P.take P.length)).length ≤ 1000 := by rw [List.take_length, unhide HK0, List.nil_append]; unfold eachA; rw [List.length_map]; exact hP1
          have hAe : (K0 ++ eachA 1 (P.take P.length)).length = (eachA 1 P).length := by rw [List.take_length, unhide HK0, List.nil_append]
          generalize (K0 ++ eachA 1 (P.take P.length)).length = al at HOE hAl hAe ⊢
          generalize eachA 1 P = A1 at HOE HXE hAe
          clear HO HP HD HS1 HN1 HP3 HD3 HO3 HK0 hk hlt hK0l
          go_wp2_with fail
          have hA1 : A1.length ≤ 1000 := by rw [← hAe]; exact hAl
          have hAA := hAe
          clear hAl
          subst hAA
          go_loopw [4, 7] (fun out i wr => ∃ (k : Nat), i = .int .i64 (k : Int) ∧ k ≤ Q.length ∧ Hid (AkOwn wr w.heap.size out (A1 ++ linksT Q k)) ∧ Below w.heap.size w wr) (fun _ i _ => Q.length - (intOf i).toNat)
          case atStart => exact ⟨0, rfl, Nat.zero_le _, (by rw [show linksT Q 0 = [] from rfl, List.append_nil]; exact unhide HOE), hb⟩
          case round =>
            obtain ⟨k, rfl, hk, HO, hb⟩ := hrel
            obtain ⟨A, C, rfl⟩ := AkOwn.shape (unhide HO)
            by_cases hlt : k < Q.length
            · obtain ⟨b, off, rfl, hbB, d0, d1⟩ := (unhide hQs).2 k hlt
              have HE := hide (unhide HEF2 Q[k] (List.getElem_mem hlt))
              have hsz := unhide HSZ Q[k] (List.getElem_mem hlt)
              have HIN := hide (fun he => linksT_in hlt he)
              have HOUT := hide (fun he => linksT_out hlt he)
              generalize Q[k] = q at d0 d1 HE hsz HIN HOUT
              obtain ⟨x, y⟩ := q
              simp only at d0 d1 HE hsz HIN HOUT
              have d2 := (hb.cell (p := ⟨b, off + k * 2, none⟩) (by simp; omega)).trans d0
              have d3 := (hb.cell (p := ⟨b, off + k * 2 + 1, none⟩) (by simp; omega)).trans d1
              have hki : (k : Int) < ((Q.length : Nat) : Int) := by omega
              have l0 : 0 < x.size := by omega
              have e0 := byteAt_eq l0
              have hxi : (0 : Int) < (x.size : Int) := by omega
              have hlk := linksT_length Q k
              clear d0 d1
              by_cases h101 : (x[0]'l0).toNat = 101
              · have hbq : (((x[0]'l0).toNat : Int) == 101) = true := by rw [h101]; rfl
                have hE : isE (x, y) = true := decide_eq_true (by show byteAt x 0 = 101; rw [e0]; exact h101)
                obtain ⟨h5, h3⟩ := unhide HE hE
                have HT := hide (unhide HIN hE)
                have hx3 : (3 : Int) ≤ (x.size : Int) := by omega
                have hxz : (x.size : Int) ≤ 8 := by omega
                have v0 : 0 < y.size := by omega
                have v1 : 1 < y.size := by omega
                have v2 : 2 < y.size := by omega
                have j0 : (0 : Int) < (y.size : Int) := by omega
                have j1 : (1 : Int) < (y.size : Int) := by omega
                have j2 : (2 : Int) < (y.size : Int) := by omega
                have q0 : ((y[0]'v0).toNat : Int) ≤ 255 := by have := UInt8.toNat_lt (y[0]'v0); omega
                have q1 : ((y[1]'v1).toNat : Int) ≤ 255 := by have := UInt8.toNat_lt (y[1]'v1); omega
                have q2 : ((y[2]'v2).toNat : Int) ≤ 255 := by have := UInt8.toNat_lt (y[2]'v2); omega
                have hw0 : IntKind.i64.wrap ((y[0]'v0).toNat : Int) = ((y[0]'v0).toNat : Int) := IntWalk.i64_in _ ⟨by omega, by omega⟩
                have hw1 : IntKind.i64.wrap ((y[1]'v1).toNat : Int) = ((y[1]'v1).toNat : Int) := IntWalk.i64_in _ ⟨by omega, by omega⟩
                have hw2 : IntKind.i64.wrap ((y[2]'v2).toNat : Int) = ((y[2]'v2).toNat : Int) := IntWalk.i64_in _ ⟨by omega, by omega⟩
                have hask : askE (x, y) = ⟨2, oN (numP (x.extract 1 3)), oN (numP (x.extract 3 x.size)), ((y[0]'v0).toNat : Int), ((y[1]'v1).toNat : Int), ((y[2]'v2).toNat : Int)⟩ := by
                  unfold askE
                  rw [byteAt_eq v0, byteAt_eq v1, byteAt_eq v2]
                rw [hask] at HT
                have NU := hide (fun w1 => num_any (x.extract 1 3) w1)
                have NW := hide (fun w1 => num_any (x.extract 3 x.size) w1)
                generalize (numP (x.extract 1 3)).isSome = s1 at NU
                generalize (numP (x.extract 3 x.size)).isSome = s2 at NW
                generalize oN (numP (x.extract 1 3)) = n1 at NU HT
                generalize oN (numP (x.extract 3 x.size)) = n2 at NW HT
                have hlk2 := linksT_length Q (k + 1)
                have hown := unhide HO
                unfold AkOwn at hown
                obtain ⟨m, hm⟩ : ∃ m, m = (A1 ++ linksT Q k).length := ⟨_, rfl⟩
                have hm2 := hm
                rw [List.length_append] at hm2
                rw [← hm] at hown ⊢
                have HM2 := hide hm2
                have hmb : m ≤ 4000 := by omega
                clear hm2
                clear e0 h101 hE HE HIN HOUT hask hm h5 h3
                go_wp2_with fail
                refine (unhide NU _).mono ?_
                rintro e w5 ⟨rfl, hb5⟩
                have b5 := hb.trans (hb5.mono hb.size)
                have hown5 := own_below hown hb5
                have d4 := (hb5.cell (p := ⟨b, off + k * 2, none⟩) (by have := hb.size; simp; omega)).trans d2
                have d5 := (hb5.cell (p := ⟨b, off + k * 2 + 1, none⟩) (by have := hb.size; simp; omega)).trans d3
                clear d2 d3 hown NU
                go_wp2_with fail
                refine (unhide NW _).mono ?_
                rintro e w6 ⟨rfl, hb6⟩
                have b6 := b5.trans (hb6.mono b5.size)
                have hown6 := own_below hown5 hb6
                have d6 := (hb6.cell (p := ⟨b, off + k * 2 + 1, none⟩) (by have := b5.size; simp; omega)).trans d5
                clear d4 d5 hown5 NW
                have HOD := hide hown6.drew
                have HLT := hide (fun g hg => hown6.lt g hg)
                have hjm : m + 1 ≤ maxLen := by unfold maxLen; omega
                have hz6 := b6.size
                have hz0v : w.heap.size ≤ w6.heap.size + 1 := by omega
                clear hown6 hb5 hb6
                go_wp2_with fail
                go_region_held3 (fun _ => True) (trivial)
                  ((refine wp_append_lies _ _ _ _ (by rfl) w.heap.size 77 i0 _ 6 48 Tryz.underlying45 hi hz0 hz1 hz2 rfl (by omega) (.slice A m C) m (asksV (A1 ++ linksT Q k)) (by show _ = _; kernel_rfl) ((unhide HOD).alloc _) ⟨w6.heap.size, 0, none⟩ 1 1 [.int .i64 2, .int .i64 n1, .int .i64 n2, .int .i64 ((y[0]'v0).toNat : Int), .int .i64 ((y[1]'v1).toNat : Int), .int .i64 ((y[2]'v2).toNat : Int)] (by show _ = _; kernel_rfl) (by rfl) (news6 _ _ _ _ _ _ _ _) (six_one _ _ _ _ _ _) (by omega) hjm (by omega) (by simp; omega) (w6.heap.size + 1) (by simp) ?_; intro ge cap w14 hown14 hgrow14 hat14 hlt14))
                all_goals
                  have hk14 := Gr.Kept.of_grown hgrow14
                  have b14 : Below w.heap.size w w14 := b6.trans ((((Below.refl _ _).drew.trans (below_new _ _)).mono hz6).trans (hk14.below (by simp; omega) (fun i hi => (unhide HLT i hi).1)))
                  have hsn : asksV (A1 ++ linksT Q k) ++ [.int .i64 2, .int .i64 n1, .int .i64 n2, .int .i64 ((y[0]'v0).toNat : Int), .int .i64 ((y[1]'v1).toNat : Int), .int .i64 ((y[2]'v2).toNat : Int)] = asksV (A1 ++ linksT Q (k + 1)) := by rw [unhide HT, ← List.append_assoc]; exact (Gr.asksV_snoc _ ⟨2, n1, n2, _, _, _⟩).symm
                  rw [hsn] at hown14
                  have HO14 : Hid (AkOwn w14 w.heap.size (.slice (some ⟨ge, 0, none⟩) (m + 1) cap) (A1 ++ linksT Q (k + 1))) := by
                    show AkOwn _ _ _ _
                    unfold AkOwn
                    rw [show (A1 ++ linksT Q (k + 1)).length = m + 1 by have := unhide HM2; rw [unhide HT, List.length_append, List.length_append]; simp; omega]
                    exact hown14
                  clear hown14 hgrow14 hat14 hlt14 hk14 hsn HT HLT HOD d6
                  go_wp2_with fail
                  exact ⟨⟨k + 1, by go_num, by omega, HO14, b14⟩, by simp [intOf]; omega⟩
              · have hbq : (((x[0]'l0).toNat : Int) == 101) = false := by rw [beq_eq_false_iff_ne]; omega
                have hE : isE (x, y) = false := decide_eq_false (by show ¬ byteAt x 0 = 101; rw [e0]; exact h101)
                have HT := hide (unhide HOUT hE)
                clear e0 h101 hE HE HIN HOUT d3
                go_wp2_with fail
                exact ⟨⟨k + 1, by go_num, by omega, (by rw [unhide HT]; exact unhide HO), hb⟩, by simp [intOf]; omega⟩
            · obtain rfl : k = Q.length := by omega
              have HOQ : Hid (AkOwn wr w.heap.size (.slice A (A1 ++ linksT Q Q.length).length C) (A1 ++ linksS Q)) := by
                have h := unhide HO
                rw [linksT_all] at h ⊢
                exact h
              have hK2 : (A1 ++ linksT Q Q.length).length ≤ 2000 := by have := linksT_length Q Q.length; rw [List.length_append]; omega
              have hKe : (A1 ++ linksT Q Q.length).length = (A1 ++ linksS Q).length := by rw [linksT_all]
              generalize (A1 ++ linksT Q Q.length).length = ql at HOQ hK2 hKe ⊢
              generalize A1 ++ linksS Q = K2 at HOQ hKe HXE
              subst hKe
              have IL2 := hide (unhide IL wr hb)
              obtain ⟨wq, hwq⟩ : ∃ W, W = wr := ⟨_, rfl⟩
              subst hwq
              clear HO IL HOE
              go_wp2_with fail
              refine (unhide IL2).mono ?_
              rintro e w8 ⟨⟨dl, rfl, hol⟩, hb8⟩
              obtain ⟨la, lc, rfl, _⟩ := Gr.intsAt_of_own hol
              have b9 : Below w.heap.size w w8 := hb.trans (hb8.mono hb.size)
              have HO9 := hide (own_below (unhide HOQ) hb8)
              have HP9 := hide hol
              have HD9 : Hid (∀ g, (Value.slice A K2.length C).ownBlock = some g → (Value.slice la L.length lc).ownBlock ≠ some g) := fun g h e => by
                have h2 := (hol.lt g e).1
                have h3 := ((unhide HOQ).lt g h).2
                omega
              clear IL2 hol HOQ hb8
              go_wp2_with fail
              go_loopw [4, 14] (fun out i wr => ∃ (k : Nat), i = .int .i64 (k : Int) ∧ k ≤ L.length ∧ Hid (AkOwn wr w.heap.size out (K2 ++ eachA 3 (L.take k))) ∧ Hid (wr.ownsRow wq.heap.size 3 1 (.slice la L.length lc) L.length (intsV L)) ∧ Hid (∀ g, out.ownBlock = some g → (Value.slice la L.length lc).ownBlock ≠ some g) ∧ Below w.heap.size w wr) (fun _ i _ => L.length - (intOf i).toNat)
              case atStart => exact ⟨0, rfl, Nat.zero_le _, (by rw [List.take_zero]; show AkOwn _ _ _ (K2 ++ []); rw [List.append_nil]; exact unhide HO9), unhide HP9, unhide HD9, b9⟩
              case round =>
                obtain ⟨k, rfl, hk, HO, HP, HD, hb⟩ := hrel
                obtain ⟨A, C, rfl⟩ := AkOwn.shape (unhide HO)
                by_cases hlt : k < L.length
                · obtain ⟨_, _, hsh, hat⟩ := Gr.intsAt_of_own (unhide HP)
                  obtain ⟨b, off, e0, hbB, dk⟩ := hat.2 k hlt
                  simp only [Value.slice.injEq] at hsh
                  obtain ⟨hsa, _, hsc⟩ := hsh
                  rw [← hsa] at e0
                  subst e0
                  have hki : (k : Int) < ((L.length : Nat) : Int) := by omega
                  have HSK := hide (unhide HS3 k hlt)
                  generalize L[k] = x at dk HSK
                  have hown := unhide HO
                  unfold AkOwn at hown
                  have hfl := unhide HN3 k hk
                  have hfl2 := unhide HN3 (k + 1) (by omega)
                  have hpl := unhide HP
                  obtain ⟨m, hm⟩ : ∃ m, m = (K2 ++ eachA 3 (L.take k)).length := ⟨_, rfl⟩
                  have hm2 := hm
                  rw [List.length_append, hfl] at hm2
                  have hdm := unhide HD
                  rw [← hm] at hown hdm ⊢
                  have HDM := hide hdm
                  have HM2 := hide hm2
                  have hmb : m ≤ 4000 := by omega
                  clear hsa hsc hat hm hm2 hdm
                  go_wp2_with (at_builtin; refine wpList_append_own_at _ rfl _ _ 45 rfl w.heap.size 77 i0 (.agg #[.int .i64 0, .int .i64 0, .int .i64 0, .int .i64 0, .int .i64 0, .int .i64 0]) 6 48 Tryz.underlying45 hi hz0 hz1 hz2 rfl (by decide) _ _ _ rfl (hown.alloc _) ⟨wr.heap.size, 0, none⟩ 1 1 [.int .i64 3, .int .i64 x, .int .i64 0, .int .i64 0, .int .i64 0, .int .i64 0] rfl rfl (news6 _ _ _ _ _ _ _ _) (six_one _ _ _ _ _ _) ?_ ?_ ?_ ?_)
                  · unfold maxLen; omega
                  · omega
                  · have := hb.size; simp; omega
                  intro v' w7 hown' hgrow _ hat
                  have hb7 := below_append hb (Nat.le_refl _) hown hgrow
                  have hk7 := Gr.Kept.of_grown hgrow
                  have hsn : asksV (K2 ++ eachA 3 (L.take k)) ++ [.int .i64 3, .int .i64 x, .int .i64 0, .int .i64 0, .int .i64 0, .int .i64 0] = asksV (K2 ++ eachA 3 (L.take (k + 1))) := by rw [unhide HSK, ← List.append_assoc]; exact (Gr.asksV_snoc _ ⟨3, x, 0, 0, 0, 0⟩).symm
                  rw [hsn] at hown'
                  have HO7 : Hid (AkOwn w7 w.heap.size v' (K2 ++ eachA 3 (L.take (k + 1)))) := by
                    show AkOwn _ _ _ _
                    unfold AkOwn
                    rw [show (K2 ++ eachA 3 (L.take (k + 1))).length = m + 1 by rw [List.length_append, hfl2]; have := unhide HM2; omega]
                    exact hown'
                  have HP7 : Hid (w7.ownsRow wq.heap.size 3 1 (.slice (some ⟨b, off, none⟩) L.length lc) L.length (intsV L)) := hk7.own (own_below hpl (below_new _ _)) (fun g hg hS => unhide HDM g hS hg)
                  have HD7 : Hid (∀ g, v'.ownBlock = some g → (Value.slice (some ⟨b, off, none⟩) L.length lc).ownBlock ≠ some g) := fun g hg hp => by
                    rcases hat with e | e
                    · exact unhide HDM g (by rw [← e]; exact hg) hp
                    · rw [e] at hg
                      have h8 := (hpl.lt g hp).2
                      simp at hg
                      omega
                  clear hown' hgrow hown hsn HO HSK dk hk7 hat HP HD HDM HM2 hpl
                  go_wp2_with fail
                  exact ⟨⟨k + 1, by go_num, by omega, HO7, HP7, HD7, hb7⟩, by simp [intOf]; omega⟩
                · obtain rfl : k = L.length := by omega
                  have HF : Hid (AksOwn wr w.heap.size (.slice A (K2 ++ eachA 3 (L.take L.length)).length C) X) := by
                    have h := unhide HO
                    have hx := unhide HXE
                    rw [List.take_length] at h ⊢
                    rw [hx]
                    exact h
                  clear HO HP HD HXE HS3 HN3
                  go_wp2_with fail
                  go_returns
                  exact ⟨⟨_, rfl, unhide HF⟩, hb⟩
    · rw [decide_eq_false hn0] at hX
      have hX2 := unhide hNO hX
      subst hX hX2
      have hgt : (0 : Int) < ((rnds Q : Nat) : Int) := by omega
      generalize rnds Q = n at RN hgt
      go_wp2_with fail
      refine (unhide RN).mono ?_
      rintro e w2 ⟨rfl, hb2⟩
      have hO2 := own_below (unhide HO1) hb2
      go_wp2
      go_returns
      exact ⟨⟨_, rfl, hO2⟩, b1.trans (hb2.mono b1.size)⟩
end Cy
end Go.Proofs.YtihnaddfpmjpaaaGreatDoor
namespace Go.Proofs.YtihnaddfpmjpaaaGreatDoor
namespace Cy
open Rg
theorem asksQ_len (Q : PL) : (asksQ Q).length ≤ 3000 := by
  unfold asksQ
  split
  · rename_i h
    have hst := h.1
    unfold stateOk at hst
    simp only [Bool.and_eq_true, decide_eq_true_eq] at hst
    have h0 := hst.1.1
    have h1 := ids_short [] Q
    have h2 := ids_short [108] Q
    have h3 : (linksS Q).length ≤ Q.length := by unfold linksS; rw [List.length_map]; exact List.length_filter_le _ _
    unfold eachA
    rw [List.length_append, List.length_append, List.length_map, List.length_map]
    omega
  · simp
end Cy
end Go.Proofs.YtihnaddfpmjpaaaGreatDoor
