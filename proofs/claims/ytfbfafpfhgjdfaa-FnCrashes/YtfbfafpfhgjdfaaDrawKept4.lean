/-
  The contract of spec.DrawKept.
-/
import Derived.Test.YtfbfafpfhgjdfaaDrawCrash
namespace Go.Proofs.Ytfbfafpfhgjdfaa
open Go.RowKit

theorem results_four {fn : Func} {t u v x : Tmp} (h : fn.results = #[.tmp t, .tmp u, .tmp v, .tmp x]) (tmps : Array Value) (P : Program) (w : World) :
    (results fn tmps).run P w = .ok (.tuple #[tmps.getD t undef, tmps.getD u undef, tmps.getD v undef, tmps.getD x undef]) w := by
  simp [results, h]

set_option maxRecDepth 100000 in
set_option maxHeartbeats 1000000 in
theorem drawKept_any (a : Option Addr) (len cap : Nat) (hl : len ≤ 1048576) (w : World) (hd : Code a len w.heap.size w) :
    Calls Try.prog 21 #[.slice a len cap] w fun e w' => (∃ (y : Int) (A : Option Addr) (n C : Nat) (K : List Int) (t p : Int), e = .returned (.tuple #[.int .i64 y, .slice A n C, .int .i64 t, .int .i64 p]) ∧ n ≤ 10 ∧ w'.ownsRow w.heap.size 3 1 (.slice A n C) n (intsV K) ∧ (∀ x ∈ K, Near x) ∧ -1 ≤ t ∧ t ≤ 7 ∧ 0 ≤ p ∧ p < 20) ∧ Below w.heap.size w w' := by
  have HN := hide (new_any a len cap hl w hd)
  have HD := hide hd
  have BX := hide (fun (n : Int) (h0 : 0 < n) (w2 : World) (h1 : Cur a len cap w.heap.size w2) (h2 : Code a len w.heap.size w2) => below_any a len cap w.heap.size w.heap.size n hl (Nat.le_refl _) h0 w2 h1 h2)
  clear hd
  go_enter Try.func21, Try.ntmps21
  go_wp2_with fail
  refine (unhide HN).mono ?_
  rintro e w1 ⟨rfl, hcu1, hb1⟩
  have hco1 := (unhide HD).below hb1 (Nat.le_refl _)
  have HB := hide (byte_any a len cap w.heap.size w.heap.size hl (Nat.le_refl _) w1 hcu1 hco1)
  have HCO1 := hide hco1
  have hlt1 := hcu1.lt
  clear hcu1 hco1 HN
  go_wp2_with fail
  refine (unhide HB).mono ?_
  rintro e w2 ⟨⟨x, rfl, hx0, hx1⟩, hcu2, hg2⟩
  have hk2 := grown_kept hg2
  have hc2 : Below w.heap.size w w2 := hb1.trans (hk2.below hb1.size (fun k hk => by omega))
  have hco2 := (unhide HCO1).grown (Nat.le_refl _) hg2
  have H2 := hide (unhide BX 2 (by omega) w2 hcu2 hco2)
  have HCO2 := hide hco2
  clear hcu2 hg2 hk2 hb1 HB HCO1 hco2
  go_wp2_with fail
  refine (unhide H2).mono ?_
  rintro e w3 ⟨y, rfl, _, _, hcu3, hg3⟩
  have hk3 := grown_kept hg3
  have hc3 : Below w.heap.size w w3 := hc2.trans (hk3.below hc2.size (fun k hk => by omega))
  have hco3 := (unhide HCO2).grown (Nat.le_refl _) hg3
  have H3 := hide (keep_any a len cap w.heap.size w.heap.size hl (Nat.le_refl _) w3 hcu3 hco3)
  have HCO3 := hide hco3
  have hlt3 := hcu3.lt
  clear hcu3 hg3 hk3 hc2 H2 HCO2 hco3
  go_wp2_with fail
  refine (unhide H3).mono ?_
  rintro e w4 ⟨⟨v, n, K, rfl, hn, hown, hKs⟩, hcu4, hk4⟩
  have hrow := hown.lt
  obtain ⟨A, C, rfl, _⟩ := IntsAt.of_own hown
  have hc4 : Below w.heap.size w w4 := hc3.trans (hk4.below hc3.size (fun k hk => by omega))
  have hco4 := (unhide HCO3).below (hk4.below (B := w.heap.size) hc3.size (fun k hk => by omega)) (Nat.le_refl _)
  have H4 := hide (unhide BX 9 (by omega) w4 hcu4 hco4)
  have HCO4 := hide hco4
  have HO4 := hide hown
  have HKs := hide hKs
  have HROW := hide hrow
  clear hcu4 hk4 hc3 H3 HCO3 hco4 hown hKs hrow
  go_wp2_with fail
  refine (unhide H4).mono ?_
  rintro e w5 ⟨t, rfl, ht0, ht1, hcu5, hg5⟩
  have hk5 := grown_kept hg5
  have hc5 : Below w.heap.size w w5 := hc4.trans (hk5.below hc4.size (fun k hk => by omega))
  have hco5 := (unhide HCO4).grown (Nat.le_refl _) hg5
  have HO5 := hide (hk5.own (unhide HO4) (fun k hk e => by have := unhide HROW k hk; omega))
  have H5 := hide (unhide BX 20 (by omega) w5 hcu5 hco5)
  clear hcu5 hg5 hk5 hc4 H4 HCO4 HO4 hco5
  go_wp2_with fail
  refine (unhide H5).mono ?_
  rintro e w6 ⟨p, rfl, hp0, hp1, _, hg6⟩
  have hk6 := grown_kept hg6
  have hc6 : Below w.heap.size w w6 := hc5.trans (hk6.below hc5.size (fun k hk => by omega))
  have HO6 := hide (hk6.own (unhide HO5) (fun k hk e => by have := unhide HROW k hk; omega))
  clear hg6 hk6 hc5 H5 HO5
  go_wp2
  (try simp only [Exit.inBlock, Exit.then])
  refine bodyPost_ret (results_four Try.results21 _ _ _) rfl ?_
  exact ⟨⟨y, A, n, C, K, t - 1, p, rfl, hn, own_lower (by omega) (unhide HO6), unhide HKs, by omega, by omega, hp0, hp1⟩, hc6⟩
end Go.Proofs.Ytfbfafpfhgjdfaa
