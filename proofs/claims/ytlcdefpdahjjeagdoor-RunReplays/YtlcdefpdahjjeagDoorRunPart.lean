/- A run of words is put into a guest's memory. -/
import Derived.Test.YtlcdefpdahjjeagDoorCpuMPart
import Derived.Test.YtlcdefpdahjjeagDoorGuestPart
import Derived.Test.YtlcdefpdahjjeagDoorByPart
import Derived.Deep.OwnRows
namespace Go.Proofs.YtlcdefpdahjjeagDoor
open Go.RowKit

/-- A copy into a row, as one step of a region that draws: the world behind it, written out. -/
theorem step_copy_exact {P : Program} {ops : Array Oper} {o : Oper} {a : Act} {w : World} {K : Act → World → Prop} {Q : Exit → Act → World → Prop} {E : Prop} (hgd : o.guard = none) (d s : Operand) (dT sT : TypeId)
    (ho : o.op = .call { callee := .builtin .copy, args := #[d, s], argTypes := #[dT, sT] }) (elem : TypeId) (hu : P.underlying dT = some (.slice elem)) (hsz : (P.info? elem).map (·.size) = some 1)
    (g off dLen dCap : Nat) (ad : Addr) (sLen sCap : Nat) (hd : a.eval d = .slice (some ⟨g, off, none⟩) dLen dCap) (hs : a.eval s = .slice (some ad) sLen sCap)
    (cur : Array Value) (t : TypeId) (hg : w.heap[g]? = some (.cells cur t (0, 0))) (cs : List Value) (hn : cs.length = Nat.min sLen dLen)
    (hsrc : ∀ j v, cs[j]? = some v → w.cell? (ad.add j) = some v) (hfit : off + cs.length ≤ cur.size) (h1 : ∀ v ∈ cs, v.oneCell' = true)
    (h : ∀ w', w' = w.setRow g (cur.toList.take off ++ cs ++ cur.toList.drop (off + cs.length)).toArray → K (a.put o.dst (goInt cs.length)) w') :
    if Region.wanted o (yielded ops a.tmps) = true then Oper.wp P o a w K Q else E := by
  have hw : Region.wanted o (yielded ops a.tmps) = true := by simp [Region.wanted, hgd]
  rw [if_pos hw]
  have hrun := run_copy_row (P := P) w dT sT o.type elem g off dLen dCap ad sLen sCap cur t cs hu hsz hg hn hsrc hfit h1
  unfold Oper.wp
  simp [execOp, ho, resolve, invoke, builtin, hd, hs, hrun, Result.andThen]
  exact h _ (by simp)

theorem three_left {α : Type} (A B C : List α) (j : Nat) (h : j < A.length) : (A ++ B ++ C)[j]? = A[j]? := by
  rw [List.append_assoc, List.getElem?_append_left h]
theorem three_mid {α : Type} (A B C : List α) (j : Nat) (h1 : A.length ≤ j) (h2 : j < A.length + B.length) : (A ++ B ++ C)[j]? = B[j - A.length]? := by
  rw [List.append_assoc, List.getElem?_append_right h1, List.getElem?_append_left (by omega)]
theorem three_right {α : Type} (A B C : List α) (j : Nat) (h : A.length + B.length ≤ j) : (A ++ B ++ C)[j]? = C[j - (A.length + B.length)]? := by
  rw [List.append_assoc, List.getElem?_append_right (by omega), List.getElem?_append_right (by omega), Nat.sub_sub]

/-- A run of words is put into memory. -/
theorem AtP.putRun {w : World} {lo b g n c off : Nat} {rv ov : Value} {m : Mach} {blk : List Int} {cur : Array Value} (h : AtP w lo b rv (.slice (some ⟨g, 0, none⟩) n c) ov m) (hcur : w.heap[g]? = some (.cells cur 3 (0, 0))) (hoff : off + blk.length ≤ m.mem.length) :
    AtP (w.setRow g (cur.toList.take off ++ blk.map (Value.int .i64) ++ cur.toList.drop (off + (blk.map (Value.int .i64)).length)).toArray) lo b rv (.slice (some ⟨g, 0, none⟩) n c) ov { m with mem := m.mem.take off ++ blk ++ m.mem.drop (off + blk.length) } ∧
    Below lo w (w.setRow g (cur.toList.take off ++ blk.map (Value.int .i64) ++ cur.toList.drop (off + (blk.map (Value.int .i64)).length)).toArray) := by
  have hg := World.ownsRow.lt h.own.mem g rfl
  have hne : g ≠ b := fun e => by
    have := own_ne h.own.mem h.box (by decide)
    subst e
    exact this rfl
  have hB : Below lo w (w.setRow g (cur.toList.take off ++ blk.map (Value.int .i64) ++ cur.toList.drop (off + (blk.map (Value.int .i64)).length)).toArray) := below_setRow (Below.refl _ _) hg.1 _
  refine ⟨⟨by rw [setRow_other _ _ _ _ (Ne.symm hne)]; exact h.box, ⟨?_, ?_, ?_, h.own.rm, h.own.ro, h.own.mo⟩, h.le⟩, hB⟩
  · obtain ⟨e1, e2⟩ := h.own.regs
    refine ⟨e1, ?_⟩
    rcases e2 with e2 | ⟨g', cap, cu, hv, hlo, hh, r⟩
    · exact Or.inl e2
    · refine Or.inr ⟨g', cap, cu, hv, hlo, ?_, r⟩
      rw [setRow_other _ _ _ _ (fun e => h.own.rm g' (by rw [hv]; rfl) (by rw [e]; rfl))]; exact hh
  · obtain ⟨e1, e2⟩ := h.own.mem
    rcases e2 with ⟨e2, _⟩ | ⟨g', cap, cu, hv, hlo, hh, r1, r2, r3, r4⟩
    · simp at e2
    · simp only [Value.slice.injEq, Option.some.injEq, Addr.mk.injEq] at hv
      obtain ⟨⟨rfl, -, -⟩, hn', rfl⟩ := hv
      rw [hcur] at hh
      simp only [Option.some.injEq, Obj.cells.injEq, and_true] at hh
      subst hh
      have hl : (m.mem.take off ++ blk ++ m.mem.drop (off + blk.length)).length = m.mem.length := by simp; omega
      have hcs : m.mem.length ≤ cur.size := by omega
      refine ⟨by simp only [List.length_map]; omega, Or.inr ⟨g, c, _, by rw [hl, hn'], hlo, setRow_heap w g cur _ _ _ hcur, by show (m.mem.take off ++ blk ++ m.mem.drop (off + blk.length)).length ≤ c; omega, r2, by simp; omega, ?_⟩⟩
      rw [hl]
      simp only [Nat.mul_one] at r4 ⊢
      apply List.ext_getElem?
      intro j
      have hr : ∀ j, j < m.mem.length → cur.toList[j]? = (m.mem.map (Value.int .i64))[j]? := fun j hj => by rw [← r4, List.getElem?_take_of_lt hj]
      by_cases hj : j < m.mem.length
      · rw [List.getElem?_take_of_lt hj]
        have l1 : (cur.toList.take off).length = off := by simp; omega
        have l2 : ((m.mem.take off).map (Value.int .i64)).length = off := by simp; omega
        have l3 : (blk.map (Value.int .i64)).length = blk.length := by simp
        simp only [List.map_append]
        by_cases h1 : j < off
        · rw [three_left _ _ _ _ (by omega), three_left _ _ _ _ (by omega), List.getElem?_take_of_lt h1, hr j hj, List.getElem?_map, List.getElem?_map, List.getElem?_take_of_lt h1]
        · by_cases h2 : j < off + blk.length
          · rw [three_mid _ _ _ _ (by omega) (by omega), three_mid _ _ _ _ (by omega) (by omega), l1, l2]
          · rw [three_right _ _ _ _ (by omega), three_right _ _ _ _ (by omega), l1, l2, l3, List.getElem?_drop, List.getElem?_map, List.getElem?_drop, hr _ (by omega), List.getElem?_map]
      · rw [List.getElem?_eq_none (by simp; omega), List.getElem?_eq_none (by simp; omega)]
  · obtain ⟨e1, e2⟩ := h.own.out
    refine ⟨e1, ?_⟩
    rcases e2 with e2 | ⟨g', cap, cu, hv, hlo, hh, r⟩
    · exact Or.inl e2
    · refine Or.inr ⟨g', cap, cu, hv, hlo, ?_, r⟩
      rw [setRow_other _ _ _ _ (fun e => h.own.mo g rfl (by rw [hv, ← e]; rfl))]; exact hh

end Go.Proofs.YtlcdefpdahjjeagDoor

/- New memory of zeros. -/

namespace Go.Proofs.YtlcdefpdahjjeagDoor
open Go.RowKit

theorem OwnI.madeZ {w : World} {lo g n : Nat} (hlo : lo ≤ g) (hn : n ≤ maxLen) (h : w.heap[g]? = some (.cells (madeCells #[.int .i64 0] n) 3 (0, 0))) : OwnI w lo (.slice (some ⟨g, 0, none⟩) n n) (List.replicate n 0) := by
  refine ⟨by simp, Or.inr ⟨g, n, _, by simp, hlo, h, by simp, hn, by simp [size_madeCells], ?_⟩⟩
  rw [toList_madeCells_one]; simp

end Go.Proofs.YtlcdefpdahjjeagDoor
