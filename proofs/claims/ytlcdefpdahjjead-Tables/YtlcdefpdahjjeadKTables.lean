/- What the guest of Tables does, as plain things. -/
import Derived.Test.YtlcdefpdahjjeadWalkStores
namespace Go.Proofs.Ytlcdefpdahjjead
open Go.RowKit
set_option linter.unusedVariables false

abbrev tabL : List Ins := [(14, 0, 0, 0), (6, 2, 1, 0), (5, 3, 1, 0)]
theorem tabL_words : tabL.map insWord = [14, 166, 181] := by decide
def tabBase : List Int := [14, 166, 181] ++ List.replicate 253 0
theorem tabBase_len : tabBase.length = 256 := by simp only [tabBase, List.length_append, List.length_replicate]; rfl
/-- The memory with its table: page a means what x says. -/
def tabMem (a x : Int) : List Int := (tabBase.set 16 32).set (16 + a).toNat x
theorem tabMem_len (a x : Int) : (tabMem a x).length = 256 := by simp only [tabMem, List.length_set, tabBase_len]
theorem tabMem_get (a x : Int) (j : Nat) (h0 : 2 ≤ a) (h9 : a ≤ 9) (hj : j < 17) : (tabMem a x).getD j 0 = (tabBase.set 16 32).getD j 0 := by
  unfold tabMem
  rw [getD_set _ _ _ _ _ (by simp only [List.length_set, tabBase_len]; omega), if_neg (by omega)]
theorem tabMem_page (a x : Int) (h0 : 2 ≤ a) (h9 : a ≤ 9) : (tabMem a x).getD (16 + a).toNat 0 = x := by
  unfold tabMem
  rw [getD_set _ _ _ _ _ (by simp only [List.length_set, tabBase_len]; omega), if_pos rfl]
/-- The guest ahead of its steps. -/
def tabM (a x : Int) : Mach := ⟨[1, a * 16 + 5, 77, 0, 0, 0, 0, 0], 0, 0, false, false, -1, 0, 0, tabMem a x, [], 0, -1⟩
def tabM1 (a x : Int) : Mach := ⟨[1, a * 16 + 5, 77, 0, 0, 0, 0, 0], 1, 0, false, false, 1, 1, 0, tabMem a x, [], 0, -1⟩
def tabM2 (a x b : Int) : Mach := ⟨[1, a * 16 + 5, 77, 0, 0, 0, 0, 0], 2, 0, false, false, 1, 2, 0, (tabMem a x).set (16 * b + 5).toNat 77, [], 0, -1⟩
def tabM2n (a x : Int) : Mach := ⟨[1, a * 16 + 5, 77, 0, 0, 0, 0, 0], 1, 0, false, false, 1, 2, 4, tabMem a x, [], 0, -1⟩
def tabM3 (a x b : Int) : Mach := ⟨[1, a * 16 + 5, 77, 77, 0, 0, 0, 0], 3, 0, false, false, 1, 3, 0, (tabMem a x).set (16 * b + 5).toNat 77, [], 0, -1⟩

theorem meant_tab {m : Mach} (ht : m.table = 1) {x pg : Int} (wr : Bool) (h0 : 0 ≤ x) (h1 : x ≤ 255) (hp : m.mem.getD (16 * 1 + x / 16).toNat 0 = pg) (h2 : 32 ≤ pg) (h3 : pg ≤ 63) (h4 : wr = true → 48 ≤ pg) :
    m.meantE x wr = 0 ∧ m.meantK x wr = 16 * (pg % 16) + x % 16 := by
  have hpg : m.page x = pg := by unfold Mach.page; rw [ht]; exact hp
  have e1 : m.meantE x wr = 0 := by
    simp only [Mach.meantE, inB_yes h0 h1, ht, hpg, inB_yes h2 h3]
    cases wr with
    | false => rfl
    | true => rw [decide_eq_false (by have := h4 rfl; omega)]; rfl
  refine ⟨e1, ?_⟩
  unfold Mach.meantK
  rw [if_pos e1, ht, hpg]
  rfl
theorem meant_tab_no {m : Mach} (ht : m.table = 1) {x pg : Int} (h0 : 0 ≤ x) (h1 : x ≤ 255) (hp : m.mem.getD (16 * 1 + x / 16).toNat 0 = pg) (h2 : 32 ≤ pg) (h3 : pg < 48) : m.meantE x true = 4 := by
  have hpg : m.page x = pg := by unfold Mach.page; rw [ht]; exact hp
  simp only [Mach.meantE, inB_yes h0 h1, ht, hpg, inB_yes h2 (show pg ≤ 63 by omega)]
  rw [decide_eq_true h3]; rfl
theorem run_tab {m : Mach} (p x v : Int) (ht : m.table = 1) (hp : m.pc = p) (h0 : 0 ≤ p) (h1 : p ≤ 15) (h32 : m.mem.getD 16 0 = 32) (hx : m.mem.getD p.toNat 0 = x) (hd : decNo x = 0) : m.run1 v = m.exec (x % 16) (x / 16 % 8) (x / 128 % 8) (x / 1024) v := by
  subst hp
  have e := meant_tab ht (x := m.pc) (pg := 32) false h0 (by omega) (by rw [show (16 * 1 + m.pc / 16).toNat = 16 by omega]; exact h32) (by decide) (by decide) (fun h => absurd h (by decide))
  have e2 : m.meantK m.pc false = m.pc := by rw [e.2]; omega
  have e3 : m.nextX = x := by unfold Mach.nextX; rw [e2]; exact hx
  simp [Mach.run1, Mach.nextE, e.1, e3, hd]

theorem tab_1 (a x : Int) (h0 : 2 ≤ a) (h9 : a ≤ 9) : (tabM a x).step false [] 0 = (tabM1 a x, -1) := by
  rw [step_quiet rfl rfl, run_at 0 14 0 rfl rfl (by decide) (by decide) (by rw [show (tabM a x).counted.mem = tabMem a x from rfl, tabMem_get a x _ h0 h9 (by decide)]; rfl) (by decide)]
  rfl
theorem tab_2 (a b : Int) (h0 : 2 ≤ a) (h9 : a ≤ 9) (b0 : 2 ≤ b) (b9 : b ≤ 9) : (tabM1 a (48 + b)).step false [] 0 = (tabM2 a (48 + b) b, 16 * b + 5) := by
  rw [step_quiet rfl rfl, run_tab 1 166 0 rfl rfl (by decide) (by decide) (by rw [show (tabM1 a (48 + b)).counted.mem = tabMem a (48 + b) from rfl, tabMem_get a _ _ h0 h9 (by decide)]; rfl) (by rw [show (tabM1 a (48 + b)).counted.mem = tabMem a (48 + b) from rfl, tabMem_get a _ _ h0 h9 (by decide)]; rfl) (by decide)]
  show (tabM1 a (48 + b)).counted.exec 6 2 1 0 0 = _
  have er : (tabM1 a (48 + b)).counted.reg 1 + 0 = a * 16 + 5 := by show a * 16 + 5 + 0 = _; omega
  have e := meant_tab (m := (tabM1 a (48 + b)).counted) rfl (x := a * 16 + 5) (pg := 48 + b) true (by omega) (by omega) (by rw [show (16 * 1 + (a * 16 + 5) / 16).toNat = (16 + a).toNat by omega]; exact tabMem_page a _ h0 h9) (by omega) (by omega) (fun _ => by omega)
  have e2 : 16 * ((48 + b) % 16) + (a * 16 + 5) % 16 = 16 * b + 5 := by omega
  rw [exec_6, er, if_pos e.1, e.2, e2]
  rfl
theorem tab_2n (a b : Int) (h0 : 2 ≤ a) (h9 : a ≤ 9) (b0 : 2 ≤ b) (b9 : b ≤ 9) : (tabM1 a (32 + b)).step false [] 0 = (tabM2n a (32 + b), -1) := by
  rw [step_quiet rfl rfl, run_tab 1 166 0 rfl rfl (by decide) (by decide) (by rw [show (tabM1 a (32 + b)).counted.mem = tabMem a (32 + b) from rfl, tabMem_get a _ _ h0 h9 (by decide)]; rfl) (by rw [show (tabM1 a (32 + b)).counted.mem = tabMem a (32 + b) from rfl, tabMem_get a _ _ h0 h9 (by decide)]; rfl) (by decide)]
  show (tabM1 a (32 + b)).counted.exec 6 2 1 0 0 = _
  have er : (tabM1 a (32 + b)).counted.reg 1 + 0 = a * 16 + 5 := by show a * 16 + 5 + 0 = _; omega
  have e := meant_tab_no (m := (tabM1 a (32 + b)).counted) rfl (x := a * 16 + 5) (pg := 32 + b) (by omega) (by omega) (by rw [show (16 * 1 + (a * 16 + 5) / 16).toNat = (16 + a).toNat by omega]; exact tabMem_page a _ h0 h9) (by omega) (by omega)
  rw [exec_6, er, e]
  rfl
theorem tab_3n (a x : Int) : (tabM2n a x).step false [] 0 = (tabM2n a x, -1) := rfl
theorem tab_3 (a b : Int) (h0 : 2 ≤ a) (h9 : a ≤ 9) (b0 : 2 ≤ b) (b9 : b ≤ 9) : (tabM2 a (48 + b) b).step false [] 0 = (tabM3 a (48 + b) b, -1) := by
  have g : ∀ j : Nat, j < 17 → ((tabMem a (48 + b)).set (16 * b + 5).toNat 77).getD j 0 = (tabBase.set 16 32).getD j 0 := fun j hj => by
    rw [getD_set _ _ _ _ _ (by rw [tabMem_len]; omega), if_neg (by omega), tabMem_get a _ _ h0 h9 hj]
  have gp : ((tabMem a (48 + b)).set (16 * b + 5).toNat 77).getD (16 + a).toNat 0 = 48 + b := by
    rw [getD_set _ _ _ _ _ (by rw [tabMem_len]; omega), if_neg (by omega), tabMem_page a _ h0 h9]
  have gk : ((tabMem a (48 + b)).set (16 * b + 5).toNat 77).getD (16 * b + 5).toNat 0 = 77 := by
    rw [getD_set _ _ _ _ _ (by rw [tabMem_len]; omega), if_pos rfl]
  rw [step_quiet rfl rfl, run_tab 2 181 0 rfl rfl (by decide) (by decide) ((g 16 (by decide)).trans rfl) ((g 2 (by decide)).trans rfl) (by decide)]
  show (tabM2 a (48 + b) b).counted.exec 5 3 1 0 0 = _
  have er : (tabM2 a (48 + b) b).counted.reg 1 + 0 = a * 16 + 5 := by show a * 16 + 5 + 0 = _; omega
  have e := meant_tab (m := (tabM2 a (48 + b) b).counted) rfl (x := a * 16 + 5) (pg := 48 + b) false (by omega) (by omega) (by rw [show (16 * 1 + (a * 16 + 5) / 16).toNat = (16 + a).toNat by omega]; exact gp) (by omega) (by omega) (fun h => absurd h (by decide))
  have e2 : 16 * ((48 + b) % 16) + (a * 16 + 5) % 16 = 16 * b + 5 := by omega
  rw [exec_5, er, if_pos e.1, e.2, e2, show (tabM2 a (48 + b) b).counted.mem.getD (16 * b + 5).toNat 0 = 77 from gk]
  rfl
theorem tab_may (a b x : Int) (h0 : 2 ≤ a) (h9 : a ≤ 9) (hx : wordB x = true) : MayP (tabM a x) := by
  refine ⟨rfl, tabMem_len _ _, by show (0 : Nat) ≤ 200; decide, ?_, ?_, rfl, show wordB 0 = true by decide, show wordB 0 = true by decide, show (-1 : Int) ≤ -1 ∧ (-1 : Int) ≤ 15 by decide, show (0 : Int) ≤ 0 ∧ (0 : Int) ≤ 1099511627776 by decide, show (0 : Int) ≤ 0 ∧ (0 : Int) ≤ 4 by decide, show (0 : Int) ≤ 0 ∧ (0 : Int) ≤ 1 by decide, show (-1 : Int) ≤ -1 ∧ (-1 : Int) ≤ 15 by decide⟩
  · have : wordB (a * 16 + 5) = true := wordB_iff.2 ⟨by omega, by omega⟩
    show allB [1, a * 16 + 5, 77, 0, 0, 0, 0, 0] = true
    simp [allB, this]; decide
  · exact allB_set (allB_set (allB_append (by decide) (allB_zeros _)) (by decide)) hx

end Go.Proofs.Ytlcdefpdahjjead
