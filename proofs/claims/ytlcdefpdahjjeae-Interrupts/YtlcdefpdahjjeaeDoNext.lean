/- Contract of cpu.doNext: the guest does what comes next. -/
import Derived.Test.YtlcdefpdahjjeaeDoA
import Derived.Test.YtlcdefpdahjjeaeDoB
import Derived.Test.YtlcdefpdahjjeaeDoC
import Derived.Test.YtlcdefpdahjjeaeDoD
import Derived.Test.YtlcdefpdahjjeaeDoE
namespace Go.Proofs.Ytlcdefpdahjjeae
open Go.RowKit

set_option maxRecDepth 100000 in
set_option maxHeartbeats 1000000 in
/-- No instruction comes next: the guest ends. -/
theorem doNext_end (lo b : Nat) (rv mv ov : Value) (m : Mach) (value E : Int) (w : World) (h : AtP w lo b rv mv ov m) (hlo : lo ≤ w.heap.size) (hE : E ≠ 0)
    (hx : Calls Try.prog 27 #[ptr b] w fun e w' => e = .returned (.tuple #[.agg zeroI, .int .i64 E]) ∧ Below w.heap.size w w') :
    Calls Try.prog 18 #[ptr b, .int .i64 value] w fun e w' => e = .returned (.int .i64 (-1)) ∧ (∃ ov', AtP w' lo b rv mv ov' (m.ends E)) ∧ Below lo w w' := by
  have HX : Hid (Calls Try.prog 27 #[ptr b] w fun e w' => e = .returned (.tuple #[.agg zeroI, .int .i64 E]) ∧ Below w.heap.size w w') := hx
  have HH : Hid (AtP w lo b rv mv ov m ∧ lo ≤ w.heap.size) := ⟨h, hlo⟩
  have d0 : (E != 0) = true := by simpa using hE
  clear hx h hE
  go_enter Try.func18, Try.ntmps18
  go_wp2_with fail
  refine HX.out.mono ?_
  rintro e w1 ⟨rfl, hb1⟩
  clear HX
  have h1 := HH.out.1.below hb1
  have H1 : Hid (AtP w1 lo b rv mv ov m ∧ Below lo w w1 ∧ lo ≤ w1.heap.size) := ⟨h1, hb1.mono HH.out.2, Nat.le_trans HH.out.2 hb1.size⟩
  obtain ⟨⟨z0, z1, z2, z3, z4, z5, z6, z7, z8, z9, z10, z11⟩, zf, zl⟩ := twelve_cells h1.box
  have hne : ¬ b = w1.heap.size := by omega
  clear HH hb1 h1
  go_wp2_with fail
  go_ret
  exact ⟨rfl, ⟨_, (H1.out.1.setFin E).1.below (below_alloc _ _)⟩, H1.out.2.1.trans ((H1.out.1.setFin E).2.trans ((below_alloc _ _).mono (by simpa using H1.out.2.2)))⟩

theorem doNext_any (lo b : Nat) (rv mv ov : Value) (m : Mach) (value : Int) (w : World) (h : AtP w lo b rv mv ov m) (hlo : lo ≤ w.heap.size) (hm : MayP m) (hf : m.fin = 0) :
    Calls Try.prog 18 #[ptr b, .int .i64 value] w fun e w' => e = .returned (.int .i64 (m.run1 value).2) ∧ (∃ ov', AtP w' lo b rv mv ov' (m.run1 value).1) ∧ Below lo w w' := by
  by_cases hE : m.meantE m.pc false = 0
  · by_cases hD : decNo m.nextX = 0
    · have hx := next_ok lo b rv mv ov m w h hm hE hD
      have hr : m.run1 value = m.exec (m.nextX % 16) (m.nextX / 16 % 8) (m.nextX / 128 % 8) (m.nextX / 1024) value := by simp [Mach.run1, Mach.nextE, hE, hD]
      rw [hr]
      obtain ⟨b0, b1, b2, b3⟩ := instrNo_bd hD
      have b4 : m.nextX % 16 = 2 ∨ m.nextX % 16 = 3 → 0 ≤ m.nextX / 1024 ∧ m.nextX / 1024 ≤ 7 := fun ho => instrNo_reg hD ho
      unfold instrA at hx
      revert hx b4 b0
      generalize m.nextX % 16 = op
      intro hx b0 b4
      rcases (by omega : op = 0 ∨ op = 1 ∨ op = 2 ∨ op = 3 ∨ op = 4 ∨ op = 5 ∨ op = 6 ∨ op = 7 ∨ op = 8 ∨ op = 9 ∨ op = 10 ∨ op = 11 ∨ op = 12 ∨ op = 13 ∨ op = 14 ∨ op = 15) with rfl | rfl | rfl | rfl | rfl | rfl | rfl | rfl | rfl | rfl | rfl | rfl | rfl | rfl | rfl | rfl
      · exact doNext_0 lo b rv mv ov m _ _ _ value w h hlo hm hf b1 b2 b3 b4 hx
      · exact doNext_1 lo b rv mv ov m _ _ _ value w h hlo hm hf b1 b2 b3 b4 hx
      · exact doNext_2 lo b rv mv ov m _ _ _ value w h hlo hm hf b1 b2 b3 b4 hx
      · exact doNext_3 lo b rv mv ov m _ _ _ value w h hlo hm hf b1 b2 b3 b4 hx
      · exact doNext_4 lo b rv mv ov m _ _ _ value w h hlo hm hf b1 b2 b3 b4 hx
      · exact doNext_5 lo b rv mv ov m _ _ _ value w h hlo hm hf b1 b2 b3 b4 hx
      · exact doNext_6 lo b rv mv ov m _ _ _ value w h hlo hm hf b1 b2 b3 b4 hx
      · exact doNext_7 lo b rv mv ov m _ _ _ value w h hlo hm hf b1 b2 b3 b4 hx
      · exact doNext_8 lo b rv mv ov m _ _ _ value w h hlo hm hf b1 b2 b3 b4 hx
      · exact doNext_9 lo b rv mv ov m _ _ _ value w h hlo hm hf b1 b2 b3 b4 hx
      · exact doNext_10 lo b rv mv ov m _ _ _ value w h hlo hm hf b1 b2 b3 b4 hx
      · exact doNext_11 lo b rv mv ov m _ _ _ value w h hlo hm hf b1 b2 b3 b4 hx
      · exact doNext_12 lo b rv mv ov m _ _ _ value w h hlo hm hf b1 b2 b3 b4 hx
      · exact doNext_13 lo b rv mv ov m _ _ _ value w h hlo hm hf b1 b2 b3 b4 hx
      · exact doNext_14 lo b rv mv ov m _ _ _ value w h hlo hm hf b1 b2 b3 b4 hx
      · exact doNext_15 lo b rv mv ov m _ _ _ value w h hlo hm hf b1 b2 b3 b4 hx
    · have hr : m.run1 value = (m.ends 2, -1) := by simp [Mach.run1, Mach.nextE, hE, hD]
      rw [hr]
      exact doNext_end lo b rv mv ov m value 2 w h hlo (by decide) (next_code lo b rv mv ov m w h hm hE hD)
  · have hN : m.nextE = m.meantE m.pc false := by simp [Mach.nextE, hE]
    have hr : m.run1 value = (m.ends m.nextE, -1) := by simp [Mach.run1, hN, hE]
    rw [hr]
    exact doNext_end lo b rv mv ov m value m.nextE w h hlo (by rw [hN]; exact hE) (next_at lo b rv mv ov m w h hm hE)

end Go.Proofs.Ytlcdefpdahjjeae
