/-
  laws.FnPages' walk: whatever page and places are drawn, it returns true.
-/
import Derived.Test.YtajajfmaekdphaaPgWalk
import Derived.Deep.RegionWith
namespace Go.Proofs.Ytajajfmaekdphaa
open Go.RowKit

/-- What spec.DrawPageText draws. -/
def Draws (a : Option Addr) (len cap : Nat) (w : World) : Prop :=
  Calls Try.prog 9 #[.slice a len cap] w fun e w' => (∃ d k Q, e = .returned d ∧ PageOwn w' w.heap.size d k Q ∧ Q.length ≤ 5 ∧ ∀ x ∈ Q, x.key.size ≤ 100 ∧ x.val.size ≤ 100) ∧ Below w.heap.size w w'

set_option maxRecDepth 100000 in
theorem pages_big (a : Option Addr) (len cap : Nat) (hl : ¬ len ≤ 1048576) (w : World) :
    Calls Try.prog 3 #[.slice a len cap] w fun e w' => e = .returned (.bool true) ∧ Below w.heap.size w w' := by
  have hbig : decide ((1048576 : Int) < (len : Int)) = true := by simp; omega
  go_enter Try.func3, Try.ntmps3
  go_wp2_with fail
  refine (big_any _ _ _ _).mono ?_
  rintro e w0 ⟨rfl, rfl⟩
  rw [hbig]
  go_wp2
  go_ret
  exact ⟨rfl, Below.refl _ _⟩

set_option maxRecDepth 100000 in
set_option maxHeartbeats 4000000 in
theorem pages_walk (a : Option Addr) (len cap : Nat) (hl : len ≤ 1048576) (w : World) (hcode : Code a len w.heap.size w) (hdr : Draws a len cap w) :
    Calls Try.prog 3 #[.slice a len cap] w fun e w' => e = .returned (.bool true) ∧ Below w.heap.size w w' := by
  have hbig : decide ((1048576 : Int) < (len : Int)) = false := by simp; omega
  have H0 := hide hdr
  have HD := hide hcode
  clear hcode hdr
  go_enter Try.func3, Try.ntmps3
  go_wp2_with fail
  refine (big_any _ _ _ _).mono ?_
  rintro e w0 ⟨rfl, rfl⟩
  rw [hbig]
  go_wp2_with fail
  refine (unhide H0).mono ?_
  rintro e w1 ⟨⟨d, k, Q, rfl, hown, hq5, hsm⟩, hb1⟩
  have hpa := hown.at
  have HSM : Hid (∀ x ∈ Q, x.key.size ≤ 1048576 ∧ x.val.size ≤ 1048576) := fun x hx => by have := hsm x hx; omega
  have HI := hide (fun W (hb : Below w1.heap.size w1 W) => implPage_any d w1.heap.size k Q (by omega) (unhide HSM) W hb.size (hpa.below hb (Nat.le_refl _)))
  have HS := hide (fun W (hb : Below w1.heap.size w1 W) => specPage_any d w1.heap.size k Q (by omega) (unhide HSM) W hb.size (hpa.below hb (Nat.le_refl _)))
  obtain ⟨A, n, C, rfl, hQ⟩ := hpa
  have hn := hQ.1
  subst hn
  have HQ := hide hQ
  clear hown hsm hQ
  by_cases hp : PageOk k Q
  · -- MARK YES
    obtain ⟨T, hT⟩ : ∃ T, T = sealB (pageTo k Q Q.length) := ⟨_, rfl⟩
    have hTs : T.size = sizeTo k Q Q.length + 6 := by rw [hT]; exact sealed_size hp
    have hS := hp.2.2.2
    have HR0 : Hid (∀ W, Calls Try.prog 12 #[.string T] W fun e w' => (∃ d, e = .returned (.tuple #[d, .bool true]) ∧ PageOwn w' W.heap.size d k Q) ∧ Below W.heap.size W w') := fun W => by
      have h := implRP_any T (by omega) W
      rw [hT, rpA_back hp] at h
      rw [hT]
      exact h
    have HR1 : Hid (∀ (i : Nat) (c : UInt8) (W : World), i < T.data.toList.length → c ≠ T.data.toList.getD i 0 → Calls Try.prog 12 #[.string (ofL (T.data.toList.set i c))] W fun e w' => (∃ d k' Q', e = .returned (.tuple #[d, .bool false]) ∧ PageOwn w' W.heap.size d k' Q') ∧ Below W.heap.size W w') := fun i c W hi hc => by
      have hlt : T.data.toList.length = T.size := by simp
      have h := implRP_any (ofL (T.data.toList.set i c)) (by rw [ofL_size, List.length_set]; omega) W
      subst hT
      rw [rpA_turned hp i hi c hc] at h
      exact h.mono (fun e w' ⟨⟨d, h1, h2⟩, h3⟩ => ⟨⟨d, _, _, h1, h2⟩, h3⟩)
    rw [pageA_yes hp, ← hT] at HI HS
    clear hT hp
    have hbn := below_new w1 (Obj.cells #[Value.int .i64 k, Value.slice A Q.length C] 26)
    go_wp2_with fail
    refine (unhide HI _ hbn).mono ?_
    rintro e w2 ⟨rfl, hb2⟩
    have hb2' := hbn.trans (hb2.mono (by simp))
    have G2 : Hid (Box w2 w1.heap.size (.int .i64 k) (.slice A Q.length C)) := Box.below' (Box.new w1 _ _) hb2 (by simp)
    obtain ⟨g0, g1⟩ := (unhide G2).cells
    go_wp2_with fail
    refine (unhide HS _ hb2').mono ?_
    rintro e w3 ⟨rfl, hb3⟩
    have hb3' := hb2'.trans (hb3.mono hb2'.size)
    have G3 := hide ((unhide G2).below hb3)
    clear g0 g1 hb2 hb3 hbn
    go_wp2_with fail
    refine (unhide HR0 _).mono ?_
    rintro e w4 ⟨⟨d4, rfl, hown4⟩, hb4⟩
    obtain ⟨A4, n4, C4, rfl, hQ4⟩ := hown4.at
    have hn4 := hQ4.1
    subst hn4
    have hb4' := hb3'.trans (hb4.mono hb3'.size)
    have G4 := hide ((unhide G3).below hb4)
    have HQ4 := hide hQ4
    obtain ⟨g0, g1⟩ := (unhide G4).cells
    have hPl : w1.heap.size < w4.heap.size := (unhide G4).lt
    have hkk : (k != k) = false := by simp
    have hqq : (((Q.length : Nat) : Int) != ((Q.length : Nat) : Int)) = false := by simp
    have hT64 : ¬ (64 : Int) < (T.size : Int) := by omega
    have hbw4 : Below w.heap.size w w4 := hb1.trans (hb4'.mono hb1.size)
    clear hown4 hQ4 hb4 hb3' hb2' hb1
    go_wp2_with fail
    obtain ⟨W5, hW5⟩ : ∃ W, W = w4.alloc (Obj.cells #[Value.int .i64 k, Value.slice A4 Q.length C4] 26) := ⟨_, rfl⟩
    have hb5 : Below w4.heap.size w4 W5 := by rw [hW5]; exact below_new _ _
    have GP := hide ((unhide G4).below hb5)
    have GQ : Hid (Box W5 w4.heap.size (.int .i64 k) (.slice A4 Q.length C4)) := by show Box _ _ _ _; rw [hW5]; exact Box.new _ _ _
    have HQ := hide (((unhide HQ).below (hb4'.trans (hb5.mono hb4'.size)) (Nat.le_refl _)).mono (hb4'.trans (hb5.mono hb4'.size)).size)
    have HQ4 := hide (((unhide HQ4).below hb5 (Nat.le_refl _)).mono hb5.size)
    have hbw5 : Below w.heap.size w W5 := hbw4.trans (hb5.mono hbw4.size)
    have hP4 : w1.heap.size ≠ w4.heap.size := by omega
    rw [← hW5]
    clear hW5 hb5 g0 g1 hb4' G2 G3 G4 hbw4
    obtain ⟨BP, hBP⟩ : ∃ n, n = w1.heap.size := ⟨_, rfl⟩
    obtain ⟨BQ, hBQ⟩ : ∃ n, n = w4.heap.size := ⟨_, rfl⟩
    rw [← hBP, ← hBQ] at hP4
    rw [← hBP] at GP
    rw [← hBQ] at GQ
    rw [← hBP, ← hBQ]
    clear hBP hBQ hPl
    go_loopw [10, 11] (fun a10 a11 wr => ∃ j : Nat, a11 = .int .i64 (j : Int) ∧ j ≤ Q.length ∧ a10 = .int .i64 ((sizeTo k Q j : Nat) : Int) ∧ Below W5.heap.size W5 wr) (fun _ a11 _ => Q.length - (intOf a11).toNat)
    case atStart => exact ⟨0, rfl, Nat.zero_le _, by rw [sizeTo_zero]; rfl, Below.refl _ _⟩
    case round =>
      obtain ⟨j, rfl, hj, rfl, hb⟩ := hrel
      obtain ⟨g0, g1⟩ := ((unhide GP).below hb).cells
      obtain ⟨q0, q1⟩ := ((unhide GQ).below hb).cells
      by_cases hlt : j < Q.length
      · -- MARK ROUND
        obtain ⟨b, off, rfl, hbB, hc0, hc1, hc2⟩ := (unhide HQ).2 j hlt
        obtain ⟨b', off', rfl, hbB', hc0', hc1', hc2'⟩ := (unhide HQ4).2 j hlt
        rw [← hb.cell (p := ⟨b, off + j * 3, none⟩) (by simp; omega)] at hc0
        rw [← hb.cell (p := ⟨b, off + j * 3 + 1, none⟩) (by simp; omega)] at hc1
        rw [← hb.cell (p := ⟨b, off + j * 3 + 2, none⟩) (by simp; omega)] at hc2
        rw [← hb.cell (p := ⟨b', off' + j * 3, none⟩) (by simp; omega)] at hc0'
        rw [← hb.cell (p := ⟨b', off' + j * 3 + 1, none⟩) (by simp; omega)] at hc1'
        rw [← hb.cell (p := ⟨b', off' + j * 3 + 2, none⟩) (by simp; omega)] at hc2'
        have hx0 : (0 : Int) ≤ (j : Int) := by omega
        have hx1 : (j : Int) < ((Q.length : Nat) : Int) := by omega
        have hqm := unhide HSM Q[j] (List.getElem_mem hlt)
        have HIZ := hide (fun W => implSize_any k Q[j] hqm.1 hqm.2 W)
        have hsz := sizeTo_succ k Q j hlt
        have hmo := sizeTo_mono k Q (show j + 1 ≤ Q.length from hlt)
        have HSZ := hide hsz
        have hz0 : sizeTo k Q j ≤ 54 := by omega
        have hz1 : itSize k Q[j] ≤ 54 := by omega
        clear hqm hsz hmo
        generalize Q[j] = q at hc0 hc1 hc0' hc1' hc2 hc2' HIZ HSZ hz1
        obtain ⟨s, t, p⟩ := q
        simp only [itV] at hc0 hc1 hc0' hc1' hc2 hc2' HIZ
        generalize itSize k ⟨s, t, p⟩ = z at HIZ HSZ hz1
        generalize hzz : sizeTo k Q j = zz at HSZ hz0
        go_wp2_with fail
        go_big_region
        go_wp2_with fail
        have hlb : b < wr.heap.size := by have := hb.size; omega
        go_region_with (go_at_call 13; refine (unhide HIZ _).mono ?_; rintro e w6 ⟨rfl, hb6⟩)
        all_goals
          have hbe := hb.drew.drew.trans (hb6.mono hb.size)
          clear hb6
          go_wp2
          go_roundw
          case rel => exact ⟨j + 1, by go_num, by omega, by rw [unhide HSZ]; go_num, hbe⟩
          case measure => simp [intOf]; omega
      · -- MARK REST
        obtain rfl : j = Q.length := by omega
        have hc4' : Below w.heap.size w wr := hbw5.trans (hb.mono hbw5.size)
        have H1 := hide (places_any a len cap hl wr (code_mono ((unhide HD).below hc4' (Nat.le_refl _)) hc4'.size))
        generalize hzz : sizeTo k Q Q.length = zz at hTs hS
        clear hb GP GQ HQ HQ4 HI HS HR0 hbw5
        go_wp2_with fail
        refine (unhide H1).mono ?_
        rintro e w2 ⟨⟨v, l, rfl, hrow, hpl⟩, hb2⟩
        obtain ⟨g, c, x, y, rfl, hg, hx, hy, hx0, hx1, hy0, hy1⟩ := places_at hpl hrow
        have hc2 : Below w.heap.size w w2 := hc4'.trans (hb2.mono hc4'.size)
        clear hpl hrow hb2 H1 g0 g1 q0 q1 hc4'
        have hcv := run_bytes_of_string (P := Try.prog) w2 9 22 5 T Try.underlying9 Try.underlying22 Try.underlying5
        have hm0 : 0 ≤ x % ((zz : Int) + 6) := Int.emod_nonneg _ (by omega)
        have hm1 : x % ((zz : Int) + 6) < (zz : Int) + 6 := Int.emod_lt_of_pos _ (by omega)
        obtain ⟨i, hi, hxe⟩ : ∃ i : Nat, i < zz + 6 ∧ x % ((zz : Int) + 6) = (i : Int) := ⟨(x % ((zz : Int) + 6)).toNat, by omega, by omega⟩
        obtain ⟨d, hd, hye⟩ : ∃ d : Nat, d ≤ 254 ∧ y % 255 = (d : Int) := ⟨(y % 255).toNat, by omega, by omega⟩
        obtain ⟨z, kx, hzb, e1, hcell, hfro, HK, HW⟩ := row_facts w2 T (grownCap w2 T.size 0 5) i d (by omega) hd
        have hcv2 := back_turned w2 T (grownCap w2 T.size 0 5) i (zz + 6) kx hTs (unhide HW)
        generalize bytesRow T (grownCap w2 T.size 0 5) = R at hcv hcv2 hcell hfro HW
        generalize grownCap w2 T.size 0 5 = cp at hcv hcv2
        clear hm0 hm1 HW
        have hj0 : (0 : Int) ≤ (i : Int) := by omega
        have hj1 : (i : Int) < (zz : Int) + 6 := by omega
        have hw1 : IntKind.i64.wrap (1 + (d : Int)) = 1 + (d : Int) := IntWalk.i64_in _ ⟨by omega, by omega⟩
        have hw2 : IntKind.u8.wrap (1 + (d : Int)) = 1 + (d : Int) := IntWalk.u8_in _ ⟨by omega, by omega⟩
        go_wp2_with fail
        go_big_region
        go_wp2_with fail
        refine (unhide HR1 _ _ _ (unhide HK).1 (unhide HK).2).mono ?_
        rintro e w5 ⟨⟨d5, k5, Q5, rfl, hown5⟩, hb5⟩
        obtain ⟨A5, n5, C5, rfl, _⟩ := hown5.at
        have hc5 : Below w.heap.size w w5 := by
          refine Below.trans ?_ (hb5.mono ?_)
          · exact (((hc2.alloc hc2.size _).setCell (p := ⟨w2.heap.size, i, none⟩) hc2.size _).drew).drew
          · have := hc2.size
            simp [World.setCell]
            omega
        clear hb5 hc2 hcv hcv2 hcell hfro hown5
        go_wp2
        go_ret
        exact ⟨by simp, hc5.alloc hc5.size _⟩
  · -- MARK NO
    rw [pageA_no hp] at HI HS
    have hbn := below_new w1 (Obj.cells #[Value.int .i64 k, Value.slice A Q.length C] 26)
    go_wp2_with fail
    refine (unhide HI _ hbn).mono ?_
    rintro e w2 ⟨rfl, hb2⟩
    have hb2' := hbn.trans (hb2.mono (by simp))
    have g0 : w2.cell? ⟨w1.heap.size, 0, none⟩ = some (.int .i64 k) := by
      rw [hb2.cell (p := ⟨w1.heap.size, 0, none⟩) (by simp)]
      exact cell_of_row _ _ 0 _ 26 (0, 0) (heap_alloc_new w1 _)
    have g1 : w2.cell? ⟨w1.heap.size, 1, none⟩ = some (.slice A Q.length C) := by
      rw [hb2.cell (p := ⟨w1.heap.size, 1, none⟩) (by simp)]
      exact cell_of_row _ _ 1 _ 26 (0, 0) (heap_alloc_new w1 _)
    go_wp2_with fail
    refine (unhide HS _ hb2').mono ?_
    rintro e w3 ⟨rfl, hb3⟩
    have hb3' : Below w.heap.size w w3 := hb1.trans ((hb2'.trans (hb3.mono hb2'.size)).mono hb1.size)
    clear g0 g1
    go_wp2_with fail
    refine (implRP_any ⟨#[]⟩ (by simp [ByteArray.size]) _).mono ?_
    rintro e w4 ⟨⟨d4, rfl, hown4⟩, hb4⟩
    obtain ⟨A4, n4, C4, rfl, _⟩ := hown4.at
    have hb4' : Below w.heap.size w w4 := hb3'.trans (hb4.mono hb3'.size)
    generalize (rpA ⟨#[]⟩).isSome = b4
    generalize pgK (rpA ⟨#[]⟩) = k4
    go_wp2
    go_ret
    exact ⟨rfl, hb4'.alloc hb4'.size _⟩
end Go.Proofs.Ytajajfmaekdphaa
