/-
  The contract of spec.DrawPageText: some page of at most five small items, new; nothing old is written.
-/
import Derived.Test.YtajajfmaekdphaaDrawPage
import Derived.Test.YtajajfmaekdphaaPgPages
namespace Go.Proofs.Ytajajfmaekdphaa
open Go.RowKit

set_option maxRecDepth 100000 in
set_option maxHeartbeats 1000000 in
theorem drawPage_any (a : Option Addr) (len cap : Nat) (hl : len ≤ 1048576) (w : World) (hd : Code a len w.heap.size w) : Draws a len cap w := by
  have hbn := below_new w (Obj.cells #[Value.int .i64 0, Value.slice none 0 0] 26)
  have hsz : (w.alloc (Obj.cells #[Value.int .i64 0, Value.slice none 0 0] 26)).heap.size = w.heap.size + 1 := by simp
  have hd1 := code_mono (hd.below hbn (Nat.le_refl _)) hbn.size
  have hn := new_any a len cap hl _ hd1
  rw [hsz] at hn hd1
  have HN := hide hn
  have HD := hide hd1
  have HR0 := hide (Box.new w (.int .i64 0) (.slice none 0 0))
  clear hd hd1 hn
  unfold Draws
  go_enter Try.func9, Try.ntmps9
  go_wp2_with fail
  refine (unhide HN).mono ?_
  rintro e w1 ⟨rfl, hc1, hb1⟩
  have HP := hide (l04Page_any a len cap (w.heap.size + 1) (w.heap.size + 1) hl (Nat.le_refl _) w1 hc1 ((unhide HD).below hb1 (Nat.le_refl _)))
  have HR := hide ((unhide HR0).below' hb1 (Nat.lt_succ_self _))
  have hb1' := hbn.trans (hb1.mono (Nat.le_succ _))
  clear hc1 hb1 hbn HN HR0 HD hsz
  go_wp2_with fail
  refine (unhide HP).mono ?_
  rintro e w2 ⟨⟨d, k, Q, rfl, hown, h5, hs⟩, hk⟩
  have HR2 := hide ((unhide HR).kept hk (by omega))
  have hb2 : Below w.heap.size w w2 := hb1'.trans (hk.below hb1'.size (fun i hi => by omega))
  obtain ⟨v1, rfl, ho⟩ := hown
  obtain ⟨A, C, rfl, _⟩ := ItemsAt.of_own ho
  obtain ⟨r0, r1⟩ := (unhide HR2).cells
  have rf0 := (unhide HR2).froz 0
  have rf1 := (unhide HR2).froz 1
  have HO := hide ho
  clear ho hk hb1'
  go_wp2
  refine bodyPost_ret (results_cell_row Try.results9 _ _ w.heap.size _ _ _ _ rfl ((unhide HR2).two _ _) Try.underlying26 rfl (by kernel_rfl)) rfl ?_
  have hR1 : w.heap.size < w1.heap.size := (unhide HR).lt
  have hne : ¬ (Value.slice A Q.length C).ownBlock = some w.heap.size := fun e => by have := ((unhide HO).lt _ e).1; omega
  refine ⟨⟨_, k, Q, rfl, ⟨_, rfl, own_lower (by omega) (ownsRow_setCell_other (a := ⟨w.heap.size, 1, none⟩) (ownsRow_setCell_other (a := ⟨w.heap.size, 0, none⟩) (unhide HO) hne _) hne _)⟩, h5, hs⟩, ?_⟩
  exact (hb2.setCell (p := ⟨w.heap.size, 0, none⟩) (Nat.le_refl _) _).setCell (p := ⟨w.heap.size, 1, none⟩) (Nat.le_refl _) _
end Go.Proofs.Ytajajfmaekdphaa
