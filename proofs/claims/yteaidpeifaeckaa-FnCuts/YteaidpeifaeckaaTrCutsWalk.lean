/-
  FnCuts's walk: what is drawn is cut in groups: all items, in order, none of the groups empty, each that has more than one small enough.
-/
import Derived.Test.YteaidpeifaeckaaTrDraw4
import Derived.Test.YteaidpeifaeckaaTrCutsMath
import Derived.Test.YteaidpeifaeckaaTrCutAll
import Derived.Test.YteaidpeifaeckaaPgSize
import Derived.BigQuiet
namespace Go.Proofs.Yteaidpeifaeckaa
namespace Tr
open Go.RowKit
open Go.Proofs.Yteaidpeifaeckaa.Pg hiding part part_zero part_all part_length part_set

theorem cutsBig (a : Option Addr) (len cap : Nat) (w : World) :
    Calls Try.prog 4 #[.slice a len cap] w fun e w' => e = .returned (.bool (decide ((1048576 : Int) < (len : Int)))) ∧ w' = w := by
  go_enter Try.func4, Try.ntmps4
  go_wp2
  go_ret
  exact ⟨rfl, rfl⟩

theorem cuts_big (a : Option Addr) (len cap : Nat) (hl : ¬ len ≤ 1048576) (w : World) :
    Calls Try.prog 3 #[.slice a len cap] w fun e w' => e = .returned (.bool true) ∧ Below w.heap.size w w' := by
  have H := hide (cutsBig a len cap w)
  have e : decide ((1048576 : Int) < (len : Int)) = true := by simp; omega
  rw [e] at H
  clear e
  go_enter Try.func3, Try.ntmps3
  go_wp2_with fail
  refine (unhide H).mono ?_
  rintro e w1 ⟨rfl, rfl⟩
  go_wp2
  go_ret
  exact ⟨rfl, Below.refl _ _⟩

set_option maxRecDepth 100000 in
set_option maxHeartbeats 2000000 in
theorem cuts_walk (a : Option Addr) (len cap : Nat) (hl : len ≤ 1048576) (w : World) (hd : Pg.Code a len w.heap.size w) :
    Calls Try.prog 3 #[.slice a len cap] w fun e w' => e = .returned (.bool true) ∧ Below w.heap.size w w' := by
  have H := hide (cutsBig a len cap w)
  have e : decide ((1048576 : Int) < (len : Int)) = false := by simp; omega
  rw [e] at H
  clear e
  have HD := hide (drawCut_any a len cap hl w hd)
  clear hd
  go_enter Try.func3, Try.ntmps3
  go_wp2_with fail
  refine (unhide H).mono ?_
  rintro e w1 ⟨rfl, rfl⟩
  go_wp2_with fail
  refine (unhide HD).mono ?_
  rintro e w2 ⟨⟨k, v, Q, rfl, hk0, hk1, ho2, hQ, hsm⟩, hb2⟩
  obtain ⟨qa, qc, rfl, hq2⟩ := ItemsAt.of_own ho2
  have hcap : Q.length ≤ qc := by
    rcases ho2.2 with ⟨_, h0⟩ | ⟨g, cap, cur, e1, _, _, h1, _⟩
    · omega
    · simp at e1
      omega
  have HI := hide (implCut_any k qa Q.length qc w2.heap.size Q (by omega) hcap (fun x hx => by have := hsm x hx; omega) w2 (Nat.le_refl _) hq2)
  have HO := hide ho2
  have HS := hide hsm
  clear ho2 hq2 hsm H HD
  go_wp2_with fail
  refine (unhide HI).mono ?_
  rintro e w3 ⟨⟨gv, vs, rfl, hg3, _⟩, hb3⟩
  have HO3 := hide (own_below (unhide HO) hb3)
  have hb13 : Below w1.heap.size w1 w3 := hb2.trans (hb3.mono hb2.size)
  have hGl := cutG_length k Q
  have hGf := cutG_flat k Q
  have hGn := cutFrom_ne k Q [] 0
  have hGt := cutG_fits k Q
  change ∀ g ∈ cutG k Q, g ≠ [] at hGn
  generalize cutG k Q = G at hg3 hGl hGf hGn hGt
  obtain ⟨ga, gc, rfl⟩ := row_shape hg3.2.1
  have HG := hide hg3
  have HF := hide hGf
  have HN := hide hGn
  have HT := hide hGt
  clear hg3 hGf hGn hGt HI HO hb3 hb2
  go_wp2_with fail
  go_loopw [6, 7] (fun at_ iv wr => ∃ i : Nat, iv = .int .i64 (i : Int) ∧ i ≤ G.length ∧ at_ = .int .i64 (((G.take i).flatten.length : Nat) : Int) ∧ Hid (wr.ownsRow w1.heap.size 30 3 (.slice qa Q.length qc) Q.length (itsV Q)) ∧ Hid (Grps wr w2.heap.size w3.heap.size (.slice ga G.length gc) vs G) ∧ Hid (Below w1.heap.size w1 wr)) (fun _ iv _ => G.length - (intOf iv).toNat)
  case atStart => exact ⟨0, rfl, Nat.zero_le _, rfl, unhide HO3, unhide HG, hb13⟩
  case round =>
    obtain ⟨wo, rfl⟩ : ∃ wo, wo = wr := ⟨_, rfl⟩
    obtain ⟨i, rfl, hi, rfl, HOr, HGr, HBr⟩ := hrel
    clear HO3 HG hb13
    by_cases hlt : i < G.length
    · have hvl : i < vs.length := by rw [(unhide HGr).1]; exact hlt
      obtain ⟨gb, gcap, hA, _, hgl⟩ := (unhide HGr).2.1.form (by omega)
      simp at hA
      obtain ⟨rfl, rfl⟩ := hA
      obtain ⟨a1, c1, e1, hi1⟩ := ItemsAt.of_own ((unhide HGr).2.2 i hvl hlt).1
      have hcg := (unhide HGr).2.1.cellAt i (by omega)
      rw [List.getElem?_eq_getElem hvl, e1] at hcg
      obtain ⟨q1, q2, e2, hi2⟩ := ItemsAt.of_own (unhide HOr)
      simp at e2
      obtain ⟨rfl, rfl⟩ := e2
      have hne := unhide HN _ (List.getElem_mem hlt)
      have hfit := unhide HT _ (List.getElem_mem hlt)
      have hfl := fun j hj => flat_at G i j hlt hj
      have htk := flat_take G i hlt
      rw [unhide HF] at hfl
      have hm0 : 0 < G[i].length := List.length_pos_iff.2 hne
      have hoff : (G.take (i + 1)).flatten.length ≤ Q.length := by
        have h1 : (G.take (i + 1)).flatten.length ≤ G.flatten.length := by
          conv => rhs; rw [← List.take_append_drop (i + 1) G, List.flatten_append, List.length_append]
          omega
        rw [unhide HF] at h1
        exact h1
      rw [htk] at hoff
      generalize hoe : (G.take i).flatten.length = o at hfl htk hoff
      generalize G[i] = g at hi1 hcg hne hfit hfl htk hoff hm0
      have HI1 := hide hi1
      have HI2 := hide hi2
      have HFL := hide hfl
      have HFT := hide hfit
      obtain ⟨m, hm⟩ : ∃ m, m = g.length := ⟨_, rfl⟩
      rw [← hm] at hcg htk hoff hm0
      have hx0 : (0 : Int) ≤ (i : Int) := by omega
      have hx1 : (i : Int) < (G.length : Int) := by omega
      have HM := hide hm
      clear hi1 hi2 hfl hfit e1 hne hm
      go_wp2_with fail
      go_loopw [6, 8, 9] (fun at_ sz kv W => ∃ j p : Nat, kv = .int .i64 (j : Int) ∧ j ≤ m ∧ at_ = .int .i64 (p : Int) ∧ Hid (p = o + j) ∧ totG k (g.take j) ≤ 300 * j ∧ sz = .int .i64 ((totG k (g.take j) : Nat) : Int) ∧ Hid (Below wo.heap.size wo W)) (fun _ _ kv _ => m - (intOf kv).toNat)
      case atStart => exact ⟨0, o, rfl, Nat.zero_le _, rfl, rfl, by simp [totG], rfl, Below.refl _ _⟩
      case round =>
        obtain ⟨j, p, rfl, hj, rfl, hp, hts, rfl, HB⟩ := hrel
        have hcw := ((unhide HB).cell (p := ⟨gb, i, none⟩) hgl).trans hcg
        by_cases hjm : j < m
        · have hjg : j < g.length := by have := unhide HM; omega
          obtain ⟨b1, o1, rfl, hb1, c10, c11, c12⟩ := ((unhide HI1).below (unhide HB) (Nat.le_refl _)).2 j hjg
          have hq := unhide HFL j hjg
          rw [← unhide hp] at hq
          have hjq : p < Q.length := by have := unhide hp; omega
          obtain ⟨b2, o2, rfl, hb2, c20, c21, c22⟩ := ((unhide HI2).below (unhide HB) (Nat.le_refl _)).2 p hjq
          have hxe : Q[p] = g[j] := by
            rw [List.getElem?_eq_getElem hjq] at hq
            exact Option.some.inj hq
          have hsx := unhide HS _ (List.getElem_mem hjq)
          rw [hxe] at c20 c21 c22 hsx
          have htt := totG_take k g j hjg
          generalize g[j] = x at c10 c11 c12 c20 c21 c22 hsx htt
          obtain ⟨xk, xv, xp⟩ := x
          simp only at c10 c11 c12 c20 c21 c22 hsx
          have hy0 : (0 : Int) ≤ (j : Int) := by omega
          have hy1 : (j : Int) < (m : Int) := by omega
          have hz0 : (0 : Int) ≤ (p : Int) := by omega
          have hz1 : (p : Int) < (Q.length : Int) := by omega
          have hz2 : ¬ (Q.length : Int) ≤ (p : Int) := by omega
          have hz3 : decide ((Q.length : Int) ≤ (p : Int)) = false := decide_eq_false hz2
          clear hq hxe
          have HSZ := hide (fun W => specSize_any k (⟨xk, xv, xp⟩ : It) (by show xk.size ≤ _; omega) (by show xv.size ≤ _; omega) W)
          go_upto_region 13 with fail
          go_quiet (fail)
          have hsz := itSize_le k (⟨xk, xv, xp⟩ : It)
          simp only at hsz
          go_wp2_with fail
          refine (unhide HSZ _).mono ?_
          rintro e W2 ⟨rfl, hb2⟩
          generalize itSize k (⟨xk, xv, xp⟩ : It) = n2 at hsz htt
          generalize htg : totG k (g.take j) = n1 at hts htt
          have HB2 : Hid (Below wo.heap.size wo W2) := (unhide HB).trans ((⟨rfl, rfl, rfl, Nat.le_refl _, fun _ _ => rfl⟩ : Below wo.heap.size wr (wr.drewN nq)).trans (hb2.mono (unhide HB).size))
          have HTT := hide htt
          have hm2 : m ≤ 122 := by omega
          clear hb2 htt HB
          go_wp2
          go_roundw
          case rel => exact ⟨j + 1, p + 1, by go_num, by omega, by go_num, by have := unhide hp; show p + 1 = o + (j + 1); omega, by rw [unhide HTT]; omega, by rw [unhide HTT]; go_num, HB2⟩
          case measure => simp [intOf]; omega
        · have hjm2 : j = m := by omega
          have htk2 : g.take j = g := List.take_of_length_le (by have := unhide HM; omega)
          rw [htk2] at hts ⊢
          have hfit := unhide HFT
          unfold FitsG at hfit
          generalize totG k g = sz at hfit hts ⊢
          have hm3 : m ≤ 122 := by omega
          have e0 : ((m : Int) == 0) = false := by simp; omega
          have e1 : decide ((m : Int) = 0) = false := by simp; omega
          have e2 : ¬ (m : Int) = 0 := by omega
          have HTK := hide htk
          have HJ := hide hjm2
          by_cases hm1 : m ≤ 1
          · have e3 : decide ((1 : Int) < (m : Int)) = false := by simp; omega
            clear htk hfit hjm2
            go_wp2
            go_roundw
            case rel => exact ⟨i + 1, by go_num, by omega, by rw [unhide HTK, unhide hp, unhide HJ], own_below (unhide HOr) (unhide HB), (unhide HGr).below (unhide HB), (unhide HBr).trans ((unhide HB).mono (unhide HBr).size)⟩
            case measure => simp [intOf]; omega
          · have e3 : (1 : Int) < (m : Int) := by omega
            have e4 : decide ((1 : Int) < (m : Int)) = true := by simp; omega
            have e5 : decide ((54 : Int) < (sz : Int)) = false := by
              have := unhide HM
              simp
              omega
            clear htk hfit hjm2
            go_wp2
            go_roundw
            case rel => exact ⟨i + 1, by go_num, by omega, by rw [unhide HTK, unhide hp, unhide HJ], own_below (unhide HOr) (unhide HB), (unhide HGr).below (unhide HB), (unhide HBr).trans ((unhide HB).mono (unhide HBr).size)⟩
            case measure => simp [intOf]; omega
    · have hie : i = G.length := by omega
      have hte : (G.take i).flatten.length = Q.length := by rw [hie, List.take_length, unhide HF]
      have e1 : ((Q.length : Int) == (Q.length : Int)) = true := by simp
      rw [hte]
      clear hie hte
      go_wp2
      go_ret
      exact ⟨rfl, unhide HBr⟩

end Tr
end Go.Proofs.Yteaidpeifaeckaa
