/- Contract of slices.Delete of the first point. -/
import Derived.Test.YtecpblabaelopaaGreatDoorSkJPart
import Derived.Deep.RegionLaw
import Derived.Lib.SliceRun
import Derived.Deep.AppendLies
namespace Go.Proofs.YtecpblabaelopaaGreatDoor
open Go.RowKit
set_option maxRecDepth 100000

theorem info_partsP : ∃ i0, Tryz.prog.info? 153 = some i0 ∧ i0.zero = some (.agg zerP) ∧ i0.size = 15 := by
  have h : (Tryz.prog.info? 153).map (fun i => (i.zero, i.size)) = some (some (.agg zerP), 15) := by kernel_rfl
  cases hi : Tryz.prog.info? 153 with
  | none => rw [hi] at h; simp at h
  | some i0 =>
    rw [hi] at h
    simp at h
    exact ⟨i0, rfl, h.1, h.2⟩
theorem zerP_one : ∀ u ∈ zerP.toList, u.oneCell' = true := by
  intro u hu
  simp at hu
  rcases hu with rfl | rfl | rfl | rfl | rfl | rfl | rfl | rfl | rfl | rfl | rfl | rfl | rfl | rfl | rfl <;> rfl
theorem zero_zerP : (Builtin.zeroCells zerP 1).toList = zerP.toList := by
  have : (Builtin.zeroCells zerP 1).toList = (List.range 15).map fun i => zerP[i % 15]! := by simp [Builtin.zeroCells]
  rw [this]
  first
    | rfl
    | (simp [List.range_succ]; done)
    | kernel_rfl
theorem run_clear_one (w : World) (ty : TypeId) (b o c : Nat) (hc : w.there b o 15) : (Builtin.clear_ #[154] ty #[.slice (some ⟨b, o, none⟩) 1 c]).run Tryz.prog w = .ok (.tuple #[]) (w.setCells b o zerP.toList) := by
  obtain ⟨i0, hi, hz, hs⟩ := info_partsP
  have hst := run_storeCells_cells (P := Tryz.prog) b o zerP.toList 0 w (fun j hj => by simpa using (hc j (by simpa using hj)).1) (fun j hj => by simpa using (hc j (by simpa using hj)).2) zerP_one
  simp only [Nat.add_zero] at hst
  have hzc : (Builtin.zeroCells (Value.agg zerP).cells 1).toList = zerP.toList := by
    have e : (Value.agg zerP).cells = zerP := rfl
    rw [e]
    exact zero_zerP
  simp [Builtin.clear_, run_underlying Tryz.underlying154, zeroValue, typeInfo, hi, hz, hzc, hst]

theorem own_room {w w' : World} {lo g n m c : Nat} {cur : Array Value} {xs ys : List Value} (h : w.ownsRow lo 153 15 (.slice (some ⟨g, 0, none⟩) n c) n xs) (hm : m ≤ n) (hg : w'.heap[g]? = some (.cells cur 153 (0, 0))) (hs : cur.size = c * 15) (hy : cur.toList.take (m * 15) = ys) (hl : ys.length = m * 15) :
    w'.ownsRow lo 153 15 (.slice (some ⟨g, 0, none⟩) m c) m ys := by
  rcases h.2 with ⟨e, _⟩ | ⟨g', cap, cur', e, hlo, hh, hnc, hcm, _, _⟩
  · simp at e
  · simp only [Value.slice.injEq, Option.some.injEq, Addr.mk.injEq, and_true, true_and] at e
    obtain ⟨rfl, rfl⟩ := e
    exact ⟨hl, Or.inr ⟨g, c, cur, rfl, hlo, hg, by omega, hcm, hs, hy⟩⟩

set_option maxHeartbeats 1000000 in
theorem delete_any (lo g n c : Nat) (ks : List PtV) (w : World) (h : w.ownsRow lo 153 15 (.slice (some ⟨g, 0, none⟩) n c) n (flatP ks)) (hn : 1 ≤ n) (hk : ks.length = n) (hn8 : n ≤ 8) (hsh : ∀ p ∈ ks, (∃ A n c, p.rv = .slice A n c) ∧ (∃ A n c, p.ov = .slice A n c)) :
    Calls Tryz.prog 159 #[.slice (some ⟨g, 0, none⟩) n c, .int .i64 0, .int .i64 1] w fun e w' => e = .returned (.slice (some ⟨g, 0, none⟩) (n - 1) c) ∧ w'.ownsRow lo 153 15 (.slice (some ⟨g, 0, none⟩) (n - 1) c) (n - 1) (flatP (ks.drop 1)) ∧ Chg (fun b => b = g) w w' := by
  obtain ⟨i0, hi0, hz0, hz1⟩ := info_partsP
  obtain ⟨cur, hcur, hnc, hcm, hcs, htk⟩ : ∃ cur, w.heap[g]? = some (.cells cur 153 (0, 0)) ∧ n ≤ c ∧ c ≤ maxLen ∧ cur.size = c * 15 ∧ cur.toList.take (n * 15) = flatP ks := by
    rcases h.2 with ⟨e, _⟩ | ⟨g', cap, cur, e, _, hh, a, b, d, f⟩
    · simp at e
    · simp only [Value.slice.injEq, Option.some.injEq, Addr.mk.injEq, and_true, true_and] at e
      obtain ⟨rfl, rfl⟩ := e
      exact ⟨cur, hh, a, b, d, f⟩
  obtain ⟨news, hnews⟩ : ∃ news, news = flatP (ks.drop 1) := ⟨_, rfl⟩
  have hlen : news.length = (n - 1) * 15 := by rw [hnews, flatP_len, List.length_drop, hk]
  have hdrop : ∀ t, t < (n - 1) * 15 → news[t]? = cur[15 + t]? := fun t ht => by
    obtain ⟨p, r, rfl⟩ : ∃ p r, ks = p :: r := by
      cases ks with
      | nil => simp at hk; omega
      | cons p r => exact ⟨p, r, rfl⟩
    have e1 : flatP (p :: r) = p.cells ++ flatP r := rfl
    have e2 : (cur.toList.take (n * 15))[15 + t]? = (flatP (p :: r))[15 + t]? := by rw [htk]
    rw [List.getElem?_take, if_pos (by omega), e1, List.getElem?_append_right (by rw [cells_len]; omega), cells_len, Nat.add_sub_cancel_left] at e2
    rw [hnews]
    simpa using e2.symm
  obtain ⟨A, hA, hsrc⟩ : ∃ A : Addr, (if c = 1 then some (⟨g, 0, none⟩ : Addr) else some ⟨g, 15, none⟩) = some A ∧ Hid (∀ t u, news[t]? = some u → w.drew.cell? (A.add t) = some u) := by
    by_cases hc1 : c = 1
    · refine ⟨⟨g, 0, none⟩, by simp [hc1], fun t u hu => ?_⟩
      have h0 : news.length = 0 := by rw [hlen]; omega
      rw [List.length_eq_zero_iff.1 h0] at hu
      simp at hu
    · refine ⟨⟨g, 15, none⟩, by simp [hc1], fun t u hu => ?_⟩
      have ht : t < (n - 1) * 15 := by
        have := (List.getElem?_eq_some_iff.1 hu).1
        rwa [hlen] at this
      rw [hdrop t ht] at hu
      rw [Addr.add_mid]
      show w.cell? _ = _
      unfold World.cell?
      simp only [hcur]
      exact hu
  have s2 : Hid (∀ u ∈ news, u.oneCell' = true) := by
    intro u hu
    rw [hnews] at hu
    unfold flatP at hu
    obtain ⟨l, hl, hul⟩ := List.mem_flatten.1 hu
    obtain ⟨p, hp, rfl⟩ := List.mem_map.1 hl
    obtain ⟨h1, h2⟩ := hsh p (List.mem_of_mem_drop hp)
    have := cells_one p h1 h2
    exact (Array.all_eq_true_iff_forall_mem.1 this) u (by simpa using hul)
  have hfit : ∀ t, t < n * 15 → (w.drew.cell? ⟨g, t, none⟩).isSome = true ∧ w.drew.frozen? ⟨g, t, none⟩ = false := fun t ht => by
    have : n * 15 ≤ c * 15 := Nat.mul_le_mul_right _ hnc
    refine ⟨?_, by show w.frozen? _ = _; simp [World.frozen?, hcur]⟩
    show (w.cell? _).isSome = true
    unfold World.cell?
    simp only [hcur]
    simp [show t < cur.size by omega]
  have s3 : Hid (∀ t, t < news.length → (w.drew.cell? ⟨g, 0 + 0 * 15 + t, none⟩).isSome = true ∧ w.drew.frozen? ⟨g, 0 + 0 * 15 + t, none⟩ = false) := by
    intro t ht
    rw [hlen] at ht
    rw [show 0 + 0 * 15 + t = t by omega]
    exact hfit t (by have : (n - 1) * 15 ≤ n * 15 := Nat.mul_le_mul_right _ (by omega); omega)
  obtain ⟨W1, hW1⟩ : ∃ W1, W1 = w.drew.setCells g (0 + 0 * 15) news := ⟨_, rfl⟩
  have hn15 : (n - 1) * 15 + 15 ≤ c * 15 := by
    have : n * 15 ≤ c * 15 := Nat.mul_le_mul_right _ hnc
    have : n = (n - 1) + 1 := by omega
    omega
  have hg1 : W1.heap[g]? = some (.cells (putAt cur 0 news) 153 (0, 0)) := by
    rw [hW1]
    exact heap_setCells news 0 w.drew cur hcur (by rw [hlen]; omega)
  have hsz1 : (putAt cur 0 news).size = c * 15 := by rw [putAt_size (by rw [hlen]; omega)]; exact hcs
  have hth : W1.there g ((n - 1) * 15) 15 := fun j hj => by
    refine ⟨?_, by simp [World.frozen?, hg1]⟩
    unfold World.cell?
    simp only [hg1]
    simp [show (n - 1) * 15 + j < (putAt cur 0 news).size by omega]
  have hcl : ∀ ty, (Builtin.clear_ #[154] ty #[.slice (some ⟨g, (n - 1) * 15, none⟩) 1 (c - (n - 1))]).run Tryz.prog W1 = .ok (.tuple #[]) (W1.setCells g ((n - 1) * 15) zerP.toList) := fun ty => run_clear_one W1 ty g _ _ hth
  have HFIN : Hid ((W1.setCells g ((n - 1) * 15) zerP.toList).ownsRow lo 153 15 (.slice (some ⟨g, 0, none⟩) (n - 1) c) (n - 1) (flatP (ks.drop 1)) ∧ Chg (fun b => b = g) w (W1.setCells g ((n - 1) * 15) zerP.toList)) := by
    have hz15 : zerP.toList.length = 15 := rfl
    refine ⟨own_room h (by omega) (heap_setCells _ _ _ _ hg1 (by rw [hz15]; omega)) (by rw [putAt_size (by rw [hz15]; omega)]; exact hsz1) ?_ (by rw [← hnews]; exact hlen), ?_⟩
    · unfold putAt
      rw [List.take_append_of_le_length (by simp; omega), List.take_append_of_le_length (by simp; omega), List.take_take, Nat.min_self]
      rw [List.take_append_of_le_length (by simp; omega), ← hnews]
      simp only [List.take_zero, List.nil_append]
      rw [List.take_of_length_le (by omega)]
    · have c1 : Chg (fun b => b = g) w W1 := by rw [hW1]; exact ((Chg.refl _ w).drew).trans chg_setCells (fun b e => Or.inl e)
      exact c1.trans chg_setCells (fun b e => Or.inl e)
  have hW : Hid (W1 = w.drew.setCells g (0 + 0 * 15) news) := hW1
  have s1 : Hid (news.length = (n - 1) * 15) := hlen
  clear hW1 hg1 hsz1 hth hfit hdrop hnews hlen hcur hcs htk h hsh
  go_enter Tryz.func159, Tryz.ntmps159
  go_wp2_with fail
  have hi1 : (1 : Int) ≤ (n : Int) := by omega
  have hi2 : (n : Int) ≤ (c : Int) := by omega
  have hi3 : (1 : Int) ≤ (c : Int) := by omega
  have hi4 : 1 ≤ c := by omega
  by_cases hc1 : c = 1
  · subst hc1
    obtain rfl : n = 1 := by omega
    have hA' : A = ⟨g, 0, none⟩ := by simpa using hA.symm
    subst hA'
    clear hA
    go_region_law ((refine step_append_room rfl (.tmp 22) (.tmp 25) 154 rfl 153 i0 15 Tryz.underlying154 hi0 hz1 g 0 0 1 (by simp [Act.eval, Act.put]) ⟨g, 0, none⟩ 0 0 news (by simp [Act.eval, Act.put]) s1.out hsrc.out s2.out (by omega) s3.out ?_; rw [← hW.out]))
    have hcl1 : ∀ ty, (Builtin.clear_ #[154] ty #[.slice (some ⟨g, 0, none⟩) 1 1]).run Tryz.prog W1 = .ok (.tuple #[]) (W1.setCells g 0 zerP.toList) := hcl
    have HFIN1 : Hid ((W1.setCells g 0 zerP.toList).ownsRow lo 153 15 (.slice (some ⟨g, 0, none⟩) 0 1) 0 (flatP (ks.drop 1)) ∧ Chg (fun b => b = g) w (W1.setCells g 0 zerP.toList)) := HFIN.out
    clear hcl
    go_wp2_with fail
    go_ret
    obtain ⟨a, b⟩ := HFIN1.out
    rw [List.drop_one] at a
    exact ⟨rfl, a, b⟩
  · have hA' : A = ⟨g, 15, none⟩ := by simpa [hc1] using hA.symm
    subst hA'
    clear hA
    have hc2 : ¬ (1 = c) := by omega
    go_region_law ((refine step_append_room rfl (.tmp 22) (.tmp 25) 154 rfl 153 i0 15 Tryz.underlying154 hi0 hz1 g 0 0 c (by simp [Act.eval, Act.put]) ⟨g, 15, none⟩ (n - 1) (c - 1) news (by simp [Act.eval, Act.put]) s1.out hsrc.out s2.out (by omega) s3.out ?_; rw [← hW.out]))
    have hi5 : ¬ (c = n - 1) := by omega
    have hi6 : n - (n - 1) = 1 := by omega
    have hi7 : ((n - 1 : Nat) : Int) ≤ (n : Int) := by omega
    have hi8 : n - 1 ≤ n := by omega
    go_wp2_with fail
    go_ret
    exact ⟨rfl, HFIN.out⟩

end Go.Proofs.YtecpblabaelopaaGreatDoor

/- A seeker that lets its first checkpoint go, and one that has one more: plain laws. -/

namespace Go.Proofs.YtecpblabaelopaaGreatDoor
open Go.RowKit
set_option maxRecDepth 100000

theorem SkAt.kept_box {w : World} {lo hp kp : Nat} {F E K : Int} {ev : Value} {S : SkS} (h : SkAt w lo hp kp F E K ev S) {g : Nat} (hg : S.kv.ownBlock = some g) : BoxT w g 153 ∧ lo ≤ g := by
  rcases h.kept.2 with ⟨e2, _⟩ | ⟨g', cap, cur, e2, hlo, hh2, _⟩
  · rw [e2] at hg; simp [Value.ownBlock] at hg
  · rw [e2] at hg; simp [Value.ownBlock] at hg; subst hg; exact ⟨⟨_, hh2⟩, hlo⟩

theorem SkAt.shed {w w' : World} {lo hp kp : Nat} {F E K : Int} {ev : Value} {S : SkS} (h : SkAt w lo hp kp F E K ev S) {p1 : PtV} {kr : List PtV} {s1 : List Int} {sr : List (List Int)} (hks : S.ks = p1 :: kr) (hss : S.ss = s1 :: sr) {v' : HV} {D' : List (List Int)} {R' : List Int} {kv' : Value}
    (hc : Chg (fun g => S.hv.foot g ∨ g = p1.sp ∨ S.kv.ownBlock = some g ∨ g = kp) w w') (hh : HostAt w' lo hp v' D' R') (hf : ∀ g, v'.foot g → S.hv.foot g ∨ w.heap.size ≤ g) (hsys : Sys D' R' (S.s0 :: S.sn :: sr))
    (hb : w'.heap[kp]? = some (.cells (skL F E K ev S.p0 S.pn kv').toArray 156 (0, 0))) (hkept : w'.ownsRow lo 153 15 kv' kr.length (flatP kr)) (hkv : ∀ g, kv'.ownBlock = some g → S.kv.ownBlock = some g) (hlen : R'.length = S.R.length) :
    SkTo w lo hp kp F E K ev S w' { S with hv := v', D := D', R := R', ks := kr, ss := sr, kv := kv' } := by
  have hnd := h.ne
  rw [hks] at hnd
  simp only [List.map_cons, List.nodup_cons, List.mem_cons, List.mem_map, not_or] at hnd
  obtain ⟨⟨n1, n2, n3⟩, ⟨n4, n5⟩, n6, n7⟩ := hnd
  obtain ⟨b1, b2, b3, b4⟩ := h.boxes
  have hb4 : BoxT w p1.sp 211 := by
    have := b4 0 (by rw [hks]; simp)
    rw [hks] at this
    exact this
  have hfs : ∀ g, BoxT w g 211 → ¬ S.hv.foot g := fun g hgb e => (BoxT.off hgb h.host (by decide) (by decide) (by decide)).1 e
  have hG : ∀ g, (S.hv.foot g ∨ g = p1.sp ∨ S.kv.ownBlock = some g ∨ g = kp) → S.hv.foot g ∨ ∃ t, BoxT w g t ∧ 3 ≠ t := fun g e => by
    rcases e with e | e | e | e
    · exact Or.inl e
    · exact Or.inr ⟨_, by rw [e]; exact hb4, by decide⟩
    · exact Or.inr ⟨_, (h.kept_box e).1, by decide⟩
    · exact Or.inr ⟨_, by rw [e]; exact b1, by decide⟩
  have hsp : ∀ {g s}, SpAt w hp g s → g ≠ p1.sp → SpAt w' hp g s := fun {g s} hq hne => hq.chg hc (by
    rintro (e | e | e | e)
    · exact hfs g ⟨_, hq.box⟩ e
    · exact hne e
    · exact BoxT.ne ⟨_, hq.box⟩ (h.kept_box e).1 (by decide) rfl
    · exact BoxT.ne ⟨_, hq.box⟩ b1 (by decide) e)
  refine ⟨⟨hb, hh, hsp h.sp0 n2, hsp h.spn n4, fun i hi => ?_, ?_, ?_, hsys, hkept, h.g0.chg hc hG hf, h.gn.chg hc hG hf, fun p hp => (h.gk p (by rw [hks]; simp [hp])).chg hc hG hf, h.evs, ⟨h.low.1, h.low.2.1, h.low.2.2.1, fun p hp => h.low.2.2.2 p (by rw [hks]; simp [hp])⟩⟩, fun g e => ?_, hc.mono fun g _ e => ?_, hlen⟩
  · have := h.sps (i + 1) (by rw [hks]; simpa using hi)
    rw [hks, hss] at this
    refine hsp (by simpa [List.getD] using this) fun e => n6 ⟨kr.getD i noPt, getD_mem hi, e⟩
  · have := h.lenk
    rw [hks, hss] at this
    simpa using this
  · simp only [List.nodup_cons, List.mem_cons, List.mem_map, not_or]
    exact ⟨⟨n1, n3⟩, n5, n7⟩
  · rcases e with e | e | e | ⟨p, hp, e⟩ | e
    · rcases hf g e with e | e
      · exact Or.inl (Or.inl e)
      · exact Or.inr e
    · exact Or.inl (Or.inr (Or.inl e))
    · exact Or.inl (Or.inr (Or.inr (Or.inl e)))
    · exact Or.inl (Or.inr (Or.inr (Or.inr (Or.inl ⟨p, by rw [hks]; exact List.mem_cons_of_mem _ hp, e⟩))))
    · exact Or.inl (Or.inr (Or.inr (Or.inr (Or.inr (hkv g e)))))
  · rcases e with e | e | e | e
    · exact Or.inl e
    · exact Or.inr (Or.inr (Or.inr (Or.inl ⟨p1, by rw [hks]; simp, e⟩)))
    · exact Or.inr (Or.inr (Or.inr (Or.inr e)))
    · exact Or.inr (Or.inl e)

theorem SkAt.more {w w' : World} {lo hp kp : Nat} {F E K : Int} {ev : Value} {S : SkS} (h : SkAt w lo hp kp F E K ev S) {p : PtV} {v' : HV} {R' : List Int} {kv' : Value}
    (hc : Chg (fun g => S.hv.foot g ∨ S.kv.ownBlock = some g ∨ g = kp) w w') (hh : HostAt w' lo hp v' S.D R') (hf : ∀ g, v'.foot g → S.hv.foot g ∨ w.heap.size ≤ g) (hsys : Sys S.D R' (S.s0 :: S.sn :: (S.ss ++ [S.sn])))
    (hb : w'.heap[kp]? = some (.cells (skL F E K ev S.p0 S.pn kv').toArray 156 (0, 0))) (hkept : w'.ownsRow lo 153 15 kv' (S.ks ++ [p]).length (flatP (S.ks ++ [p]))) (hkv : ∀ g, kv'.ownBlock = some g → S.kv.ownBlock = some g ∨ w.heap.size ≤ g)
    (hs : SpAt w' hp p.sp S.sn) (hn : w.heap.size ≤ p.sp) (hg : PtOk w' lo v'.foot p) (hlow : lo ≤ w.heap.size) (hlen : R'.length = S.R.length) :
    SkTo w lo hp kp F E K ev S w' { S with hv := v', R := R', ks := S.ks ++ [p], ss := S.ss ++ [S.sn], kv := kv' } := by
  have hnd := h.ne
  simp only [List.nodup_cons, List.mem_cons, List.mem_map, not_or] at hnd
  obtain ⟨⟨n1, n2⟩, n3, n4⟩ := hnd
  obtain ⟨b1, b2, b3, b4⟩ := h.boxes
  have hfs : ∀ g, BoxT w g 211 → ¬ S.hv.foot g := fun g hgb e => (BoxT.off hgb h.host (by decide) (by decide) (by decide)).1 e
  have hG : ∀ g, (S.hv.foot g ∨ S.kv.ownBlock = some g ∨ g = kp) → S.hv.foot g ∨ ∃ t, BoxT w g t ∧ 3 ≠ t := fun g e => by
    rcases e with e | e | e
    · exact Or.inl e
    · exact Or.inr ⟨_, (h.kept_box e).1, by decide⟩
    · exact Or.inr ⟨_, by rw [e]; exact b1, by decide⟩
  have hsp : ∀ {g s}, SpAt w hp g s → SpAt w' hp g s := fun {g s} hq => hq.chg hc (by
    rintro (e | e | e)
    · exact hfs g ⟨_, hq.box⟩ e
    · exact BoxT.ne ⟨_, hq.box⟩ (h.kept_box e).1 (by decide) rfl
    · exact BoxT.ne ⟨_, hq.box⟩ b1 (by decide) e)
  have hlk := h.lenk
  refine ⟨⟨hb, hh, hsp h.sp0, hsp h.spn, fun i hi => ?_, by simp [hlk], ?_, hsys, hkept, h.g0.chg hc hG hf, h.gn.chg hc hG hf, fun q hq => ?_, h.evs, ⟨h.low.1, h.low.2.1, h.low.2.2.1, fun q hq => ?_⟩⟩, fun g e => ?_, hc.mono fun g _ e => ?_, hlen⟩
  · simp only [List.length_append, List.length_cons, List.length_nil] at hi
    by_cases e : i < S.ks.length
    · have e1 : (S.ks ++ [p]).getD i noPt = S.ks.getD i noPt := by rw [List.getD, List.getD, List.getElem?_append_left e]
      have e2 : (S.ss ++ [S.sn]).getD i [] = S.ss.getD i [] := by rw [List.getD, List.getD, List.getElem?_append_left (by omega)]
      simp only
      rw [e1, e2]
      exact hsp (h.sps i e)
    · have e0 : i = S.ks.length := by omega
      have e1 : (S.ks ++ [p]).getD i noPt = p := by rw [e0]; simp [List.getD]
      have e2 : (S.ss ++ [S.sn]).getD i [] = S.sn := by rw [e0, ← hlk]; simp [List.getD]
      simp only
      rw [e1, e2]
      exact hs
  · simp only [List.map_append, List.map_cons, List.map_nil]
    rw [← List.cons_append, ← List.cons_append, List.nodup_append]
    refine ⟨h.ne, by simp, fun a ha b hb e => ?_⟩
    simp at hb
    subst hb
    subst e
    simp only [List.mem_cons, List.mem_map] at ha
    rcases ha with e | e | ⟨q, hq, e⟩
    · have := h.sp0.host.2.2; omega
    · have := h.spn.host.2.2; omega
    · obtain ⟨i, hi, rfl⟩ := mem_getD hq
      have := (h.sps i hi).host.2.2
      omega
  · rcases List.mem_append.1 hq with hq | hq
    · exact (h.gk q hq).chg hc hG hf
    · simp at hq; rw [hq]; exact hg
  · rcases List.mem_append.1 hq with hq | hq
    · exact h.low.2.2.2 q hq
    · simp at hq; rw [hq]; omega
  · rcases e with e | e | e | ⟨q, hq, e⟩ | e
    · rcases hf g e with e | e
      · exact Or.inl (Or.inl e)
      · exact Or.inr e
    · exact Or.inl (Or.inr (Or.inl e))
    · exact Or.inl (Or.inr (Or.inr (Or.inl e)))
    · rcases List.mem_append.1 hq with hq | hq
      · exact Or.inl (Or.inr (Or.inr (Or.inr (Or.inl ⟨q, hq, e⟩))))
      · simp at hq
        exact Or.inr (by rw [e, hq]; exact hn)
    · rcases hkv g e with e | e
      · exact Or.inl (Or.inr (Or.inr (Or.inr (Or.inr e))))
      · exact Or.inr e
  · rcases e with e | e | e
    · exact Or.inl e
    · exact Or.inr (Or.inr (Or.inr (Or.inr e)))
    · exact Or.inr (Or.inl e)
theorem flatP_snoc (ks : List PtV) (p : PtV) : flatP (ks ++ [p]) = flatP ks ++ p.cells := by
  unfold flatP
  simp

end Go.Proofs.YtecpblabaelopaaGreatDoor

/- Contract of seeker.keep. -/

namespace Go.Proofs.YtecpblabaelopaaGreatDoor
open Go.RowKit
set_option maxRecDepth 100000

def KeepPost (w : World) (lo hp kp : Nat) (F E K : Int) (ev : Value) (M : Nat → Mach) (Wr : Nat → Int) (cnt : Nat) (S : SkS) (e : Ending) (w' : World) : Prop :=
  e = .returned (.int .i64 0) ∧ ∃ S', SkTo w lo hp kp F E K ev S w' S' ∧ SkOk M Wr cnt K S' ∧ S'.pn = S.pn

structure RoomAt (w : World) (lo hp kp : Nat) (F E K : Int) (ev : Value) (M : Nat → Mach) (Wr : Nat → Int) (cnt : Nat) (S : SkS) (w1 : World) (S1 : SkS) : Prop where
  step : SkTo w lo hp kp F E K ev S w1 S1
  ok : SkOk M Wr cnt K S1
  room : (S1.ks.length : Int) + 1 ≤ K
  pn : S1.pn = S.pn
theorem shed_room {w w1 w2 w3 : World} {lo hp kp : Nat} {F E K : Int} {ev : Value} {M : Nat → Mach} {Wr : Nat → Int} {cnt : Nat} {S : SkS} (h : SkAt w lo hp kp F E K ev S) (ho : SkOk M Wr cnt K S) {p1 : PtV} {kr : List PtV} {s1 : List Int} {sr : List (List Int)} (hks : S.ks = p1 :: kr) (hss : S.ss = s1 :: sr) {g c : Nat} (hkv : S.kv = .slice (some ⟨g, 0, none⟩) (kr.length + 1) c)
    (hcl : ClearPost w lo hp p1.sp S.hv S.D S.R (S.s0 :: S.sn :: sr) w1) (hkept : w2.ownsRow lo 153 15 (.slice (some ⟨g, 0, none⟩) kr.length c) kr.length (flatP kr)) (hc2 : Chg (fun b => b = g) w1 w2) (hw3 : w3 = w2.setCell ⟨kp, 34, none⟩ (.slice (some ⟨g, 0, none⟩) kr.length c)) :
    ∃ S1, RoomAt w lo hp kp F E K ev M Wr cnt S w3 S1 ∧ S1.kv = .slice (some ⟨g, 0, none⟩) kr.length c ∧ S1.ks = kr := by
  obtain ⟨D', R', hsys, hwo, hRl, v', hh1, hsb, hf1, hcc⟩ := hcl
  obtain ⟨b1, b2, b3, b4⟩ := h.boxes
  have hgb := (h.kept_box (g := g) (by rw [hkv]; rfl)).1
  have hb4 : BoxT w p1.sp 211 := by
    have := b4 0 (by rw [hks]; simp)
    rw [hks] at this
    exact this
  have hkg : kp ≠ g := BoxT.ne b1 hgb (by decide)
  have k1 : w1.heap[kp]? = some (.cells (skL F E K ev S.p0 S.pn S.kv).toArray 156 (0, 0)) := hcc.box h.box (by
    rintro (e | e)
    · exact (BoxT.off b1 h.host (by decide) (by decide) (by decide)).1 e
    · exact BoxT.ne b1 hb4 (by decide) e)
  have k2 : w2.heap[kp]? = some (.cells (skL F E K ev S.p0 S.pn S.kv).toArray 156 (0, 0)) := hc2.box k1 hkg
  have k3 : w3.heap[kp]? = some (.cells (skL F E K ev S.p0 S.pn (.slice (some ⟨g, 0, none⟩) kr.length c)).toArray 156 (0, 0)) := by
    rw [hw3]
    have : (w2.setCell ⟨kp, 34, none⟩ (.slice (some ⟨g, 0, none⟩) kr.length c)).heap[kp]? = some (.cells ((skL F E K ev S.p0 S.pn S.kv).toArray.setIfInBounds 34 (.slice (some ⟨g, 0, none⟩) kr.length c)) 156 (0, 0)) := by simp [World.setCell, Array.getElem?_modify, k2]
    rw [this]
    rfl
  have hc3 : Chg (fun b => b = kp) w2 w3 := by rw [hw3]; exact Chg.set (F := fun b => b = kp) (Chg.refl _ _) (a := ⟨kp, 34, none⟩) (Or.inl rfl) _
  have hgb1 : BoxT w1 g 153 := by
    obtain ⟨cur, e⟩ := hgb
    exact ⟨cur, hcc.box e (by
      rintro (e2 | e2)
      · exact (BoxT.off ⟨_, e⟩ h.host (by decide) (by decide) (by decide)).1 e2
      · exact BoxT.ne ⟨_, e⟩ hb4 (by decide) e2)⟩
  have hc : Chg (fun g => S.hv.foot g ∨ g = p1.sp ∨ S.kv.ownBlock = some g ∨ g = kp) w w3 := by
    have a1 : Chg (fun x => S.hv.foot x ∨ x = p1.sp ∨ S.kv.ownBlock = some x ∨ x = kp) w w1 := hcc.mono (fun x _ e => by rcases e with e | e; exact Or.inl e; exact Or.inr (Or.inl e))
    have a2 : Chg (fun x => S.hv.foot x ∨ x = p1.sp ∨ S.kv.ownBlock = some x ∨ x = kp) w w2 := a1.trans hc2 (fun x e => Or.inl (Or.inr (Or.inr (Or.inl (by rw [hkv, e]; rfl)))))
    exact a2.trans hc3 (fun x e => Or.inl (Or.inr (Or.inr (Or.inr e))))
  have hh3 : HostAt w3 lo hp v' D' R' := by
    have a := hh1.chg hc2 (fun x e => by rw [e]; exact BoxT.off hgb1 hh1 (by decide) (by decide) (by decide))
    exact a.chg hc3 (fun x e => by rw [e]; exact BoxT.off ⟨_, k2⟩ a (by decide) (by decide) (by decide))
  have hkept3 : w3.ownsRow lo 153 15 (.slice (some ⟨g, 0, none⟩) kr.length c) kr.length (flatP kr) := hc3.owns hkept (fun x hx e => by
    simp [Value.ownBlock] at hx
    exact hkg (by omega))
  have hto := h.shed hks hss hc hh3 hf1 hsys k3 hkept3 (fun x hx => by rw [hkv]; simpa [Value.ownBlock] using hx) hRl
  refine ⟨_, ⟨hto, ⟨ho.z, ho.i0.same (hwo _ (by simp)), ho.inow.same (hwo _ (by simp)), fun i hi => ?_, ?_, ho.k8⟩, ?_, rfl⟩, rfl, rfl⟩
  · have := ho.ik (i + 1) (by rw [hks]; simpa using hi)
    rw [hks, hss] at this
    have hlk := h.lenk
    rw [hks, hss] at hlk
    have his : i < sr.length := by simp at hlk hi; omega
    have hm : sr.getD i [] ∈ sr := by
      have e : sr.getD i [] = sr[i] := by simp [List.getD, his]
      rw [e]; exact List.getElem_mem his
    exact (show PtIs M Wr cnt S.D (kr.getD i noPt) (sr.getD i []) by simpa [List.getD] using this).same (hwo _ (List.mem_cons_of_mem _ (List.mem_cons_of_mem _ hm)))
  · have := ho.few
    rw [hks] at this
    simp at this ⊢
    omega
  · have := ho.few
    rw [hks] at this
    simpa using this

theorem more_end {w w1 w2 w4 w' : World} {lo hp kp : Nat} {F E K : Int} {ev : Value} {M : Nat → Mach} {Wr : Nat → Int} {cnt : Nat} {S S1 : SkS} (hR : RoomAt w lo hp kp F E K ev M Wr cnt S w1 S1) (hlow : lo ≤ w1.heap.size) {v' : HV} {R' : List Int} {fp : Nat}
    (hh2 : HostAt w2 lo hp v' S1.D R') (hf2 : ∀ g, v'.foot g → S1.hv.foot g ∨ w1.heap.size ≤ g) (hc2 : Chg S1.hv.foot w1 w2) (hfp : w1.heap.size ≤ fp) (hsp : SpAt w2 hp fp S1.sn) (hsys : Sys S1.D R' (S1.sn :: S1.sn :: S1.s0 :: S1.ss)) (hRl : R'.length = S1.R.length)
    {W : World} (hW : Below w2.heap.size w2 W) {kv' : Value} (hkept : w4.ownsRow lo 153 15 kv' (S1.ks ++ [({ S1.pn with sp := fp } : PtV)]).length (flatP (S1.ks ++ [({ S1.pn with sp := fp } : PtV)]))) (hgr : W.grownBy w4 S1.kv.ownBlock) (hkb : kv'.ownBlock = S1.kv.ownBlock ∨ ∀ g, kv'.ownBlock = some g → w1.heap.size ≤ g)
    (hw' : w' = w4.setCell ⟨kp, 34, none⟩ kv') : KeepPost w lo hp kp F E K ev M Wr cnt S (.returned (.int .i64 0)) w' := by
  have h := hR.step.at_
  obtain ⟨b1, b2, b3, b4⟩ := h.boxes
  have hkpl := lt_of_block h.box
  have hc4 : Chg (fun g => S1.kv.ownBlock = some g) W w4 := ⟨hgr.os, hgr.tape, hgr.output, hgr.size, fun g hg hn => hgr.block g hg (fun e => hn e.symm)⟩
  have hnk : S1.kv.ownBlock ≠ some kp := fun e => BoxT.ne b1 (h.kept_box e).1 (by decide) rfl
  have k1 := hc2.box h.box (BoxT.off b1 h.host (by decide) (by decide) (by decide)).1
  have k2 : w4.heap[kp]? = some (.cells (skL F E K ev S1.p0 S1.pn S1.kv).toArray 156 (0, 0)) := hc4.box (by rw [hW.block _ (lt_of_block k1)]; exact k1) hnk
  have k3 : w'.heap[kp]? = some (.cells (skL F E K ev S1.p0 S1.pn kv').toArray 156 (0, 0)) := by
    rw [hw']
    have : (w4.setCell ⟨kp, 34, none⟩ kv').heap[kp]? = some (.cells ((skL F E K ev S1.p0 S1.pn S1.kv).toArray.setIfInBounds 34 kv') 156 (0, 0)) := by simp [World.setCell, Array.getElem?_modify, k2]
    rw [this]
    rfl
  have hc5 : Chg (fun b => b = kp) w4 w' := by rw [hw']; exact Chg.set (F := fun b => b = kp) (Chg.refl _ _) (a := ⟨kp, 34, none⟩) (Or.inl rfl) _
  have hkbox : ∀ g, S1.kv.ownBlock = some g → BoxT W g 153 := fun g e => by
    obtain ⟨cur, e2⟩ := (h.kept_box e).1
    have e3 := hc2.box e2 (BoxT.off ⟨_, e2⟩ h.host (by decide) (by decide) (by decide)).1
    exact ⟨cur, by rw [hW.block _ (lt_of_block e3)]; exact e3⟩
  have hcW : Chg S1.hv.foot w1 W := hc2.then_ hW
  have hc : Chg (fun g => S1.hv.foot g ∨ S1.kv.ownBlock = some g ∨ g = kp) w1 w' := by
    have a1 : Chg (fun g => S1.hv.foot g ∨ S1.kv.ownBlock = some g ∨ g = kp) w1 W := hcW.mono (fun g _ e => Or.inl e)
    have a2 := a1.trans hc4 (fun g e => Or.inl (Or.inr (Or.inl e)))
    exact a2.trans hc5 (fun g e => Or.inl (Or.inr (Or.inr e)))
  have hhW := hh2.below hW
  have hh4 : HostAt w4 lo hp v' S1.D R' := hhW.chg hc4 (fun g e => BoxT.off (hkbox g e) hhW (by decide) (by decide) (by decide))
  have hh' : HostAt w' lo hp v' S1.D R' := hh4.chg hc5 (fun g e => by rw [e]; exact BoxT.off ⟨_, k2⟩ hh4 (by decide) (by decide) (by decide))
  have hspW : SpAt W hp fp S1.sn := hsp.below hW
  have hsp' : SpAt w' hp fp S1.sn := (hspW.chg hc4 (fun e => BoxT.ne ⟨_, hspW.box⟩ (hkbox _ e) (by decide) rfl)).chg hc5 (by omega)
  have hkept' : w'.ownsRow lo 153 15 kv' (S1.ks ++ [({ S1.pn with sp := fp } : PtV)]).length (flatP (S1.ks ++ [({ S1.pn with sp := fp } : PtV)])) := hc5.owns hkept (fun g hg e => by
    rcases hkb with e2 | e2
    · exact hnk (by rw [← e2, hg, e])
    · have := e2 g hg; omega)
  have hgp : PtOk w' lo v'.foot ({ S1.pn with sp := fp } : PtV) := by
    have := h.gn.chg hc (fun g e => by
      rcases e with e | e | e
      · exact Or.inl e
      · exact Or.inr ⟨_, (h.kept_box e).1, by decide⟩
      · exact Or.inr ⟨_, by rw [e]; exact b1, by decide⟩) hf2
    exact ⟨this.regs, this.out, this.offr, this.offo⟩
  have hp1 : (S1.sn :: S1.sn :: S1.s0 :: S1.ss).Perm (S1.s0 :: S1.sn :: (S1.ss ++ [S1.sn])) := by
    have a : (S1.sn :: S1.s0 :: S1.ss).Perm (S1.s0 :: (S1.ss ++ [S1.sn])) := (List.Perm.swap _ _ _).trans ((List.perm_append_singleton _ _).symm.cons _)
    exact (a.cons _).trans (List.Perm.swap _ _ _)
  have hto := h.more (p := ({ S1.pn with sp := fp } : PtV)) hc hh' hf2 (hsys.perm hp1) k3 hkept' (fun g hg => by
    rcases hkb with e2 | e2
    · exact Or.inl (by rw [← e2]; exact hg)
    · exact Or.inr (e2 g hg)) hsp' hfp hgp hlow hRl
  have ho := hR.ok
  have hlk := h.lenk
  refine ⟨rfl, _, hR.step.trans hto, ⟨ho.z, ho.i0, ho.inow, fun i hi => ?_, ?_, ho.k8⟩, hR.pn⟩
  · simp only [List.length_append, List.length_cons, List.length_nil] at hi
    by_cases e : i < S1.ks.length
    · have e1 : (S1.ks ++ [({ S1.pn with sp := fp } : PtV)]).getD i noPt = S1.ks.getD i noPt := by rw [List.getD, List.getD, List.getElem?_append_left e]
      have e2 : (S1.ss ++ [S1.sn]).getD i [] = S1.ss.getD i [] := by rw [List.getD, List.getD, List.getElem?_append_left (by omega)]
      simp only
      rw [e1, e2]
      exact ho.ik i e
    · have e0 : i = S1.ks.length := by omega
      have e1 : (S1.ks ++ [({ S1.pn with sp := fp } : PtV)]).getD i noPt = ({ S1.pn with sp := fp } : PtV) := by rw [e0]; simp [List.getD]
      have e2 : (S1.ss ++ [S1.sn]).getD i [] = S1.sn := by rw [e0, ← hlk]; simp [List.getD]
      simp only
      rw [e1, e2]
      obtain ⟨n, a, b, c, d, e⟩ := ho.inow
      exact ⟨n, a, b, c, d, e⟩
  · have := hR.room
    simp only [List.length_append, List.length_cons, List.length_nil]
    omega

end Go.Proofs.YtecpblabaelopaaGreatDoor

/- Contract of seeker.keep: the walk. -/

namespace Go.Proofs.YtecpblabaelopaaGreatDoor
open Go.RowKit
set_option maxRecDepth 100000

theorem info_bytesP : ∃ i0, Tryz.prog.info? 153 = some i0 ∧ i0.zero = some (.agg zerP) ∧ i0.size = 15 ∧ i0.bytes = 160 := by
  have h : (Tryz.prog.info? 153).map (fun i => (i.zero, i.size, i.bytes)) = some (some (.agg zerP), 15, 160) := by kernel_rfl
  cases hi : Tryz.prog.info? 153 with
  | none => rw [hi] at h; simp at h
  | some i0 =>
    rw [hi] at h
    simp at h
    exact ⟨i0, rfl, h.1, h.2.1, h.2.2⟩
theorem row_shape' {w : World} {lo n size : Nat} {e : TypeId} {v : Value} {xs : List Value} (h : w.ownsRow lo e size v n xs) : ∃ A c, v = .slice A n c := by
  rcases h.2 with ⟨rfl, h0⟩ | ⟨g, cap, cur, rfl, _⟩
  · exact ⟨none, 0, by rw [h0]⟩
  · exact ⟨_, _, rfl⟩
theorem kept_first {w : World} {lo hp kp : Nat} {F E K : Int} {ev : Value} {S : SkS} (h : SkAt w lo hp kp F E K ev S) {p1 : PtV} {kr : List PtV} (hks : S.ks = p1 :: kr) : ∃ g c, S.kv = .slice (some ⟨g, 0, none⟩) (kr.length + 1) c ∧ g < w.heap.size ∧ w.cell? ⟨g, 13, none⟩ = some (hptr p1.sp) := by
  obtain ⟨g, c, e1, e2, e3⟩ := h.kept_range (k := 0) (by rw [hks]; simp)
  rw [hks] at e1 e3
  refine ⟨g, c, by rw [e1]; rfl, e2, ?_⟩
  have := e3 13 (hptr p1.sp) rfl
  simpa using this

set_option maxHeartbeats 4000000 in
theorem keep_any (lo hp kp : Nat) (F E K : Int) (ev : Value) (M : Nat → Mach) (Wr : Nat → Int) (cnt : Nat) (S : SkS) (w : World) (h : SkAt w lo hp kp F E K ev S) (ho : SkOk M Wr cnt K S) (hlow : lo ≤ w.heap.size) :
    Calls Tryz.prog 138 #[hptr kp] w fun e w' => KeepPost w lo hp kp F E K ev M Wr cnt S e w' := by
  have h8 : S.ks.length ≤ 8 := by have := ho.few; have := ho.k8; omega
  obtain ⟨k1, k2, k3, k19, k27, k32, k33, k34, kf, kl⟩ := sk_cells h.box
  have HSZ : Hid ((Tryz.prog.info? 153).map (·.size) = some 15) := by show _ = _; kernel_rfl
  obtain ⟨i0, hi0, hz0, hz1, hz2⟩ := info_bytesP
  have hkvs : ∃ A c, S.kv = .slice A S.ks.length c := row_shape' h.kept
  obtain ⟨A0, c0, hkv0⟩ := hkvs
  have HH : Hid (SkAt w lo hp kp F E K ev S ∧ SkOk M Wr cnt K S ∧ S.ks.length ≤ 8 ∧ S.kv = .slice A0 S.ks.length c0) := ⟨h, ho, h8, hkv0⟩
  rw [hkv0] at k34
  clear h ho k1 k3 k19 k27 k32 k33 hkv0
  by_cases hfull : (S.ks.length : Int) = K
  · have g1 : ((S.ks.length : Int) == K) = true := by simp [hfull]
    obtain ⟨p1, kr, hks⟩ : ∃ p1 kr, S.ks = p1 :: kr := by
      cases e : S.ks with
      | nil => have := HH.out.2.1.k8; rw [e] at hfull; simp at hfull; omega
      | cons a b => exact ⟨a, b, rfl⟩
    obtain ⟨s1, sr, hss⟩ : ∃ s1 sr, S.ss = s1 :: sr := by
      have := HH.out.1.lenk
      cases e : S.ss with
      | nil => rw [e, hks] at this; simp at this
      | cons a b => exact ⟨a, b, rfl⟩
    obtain ⟨g, c, hkv, hgl, hg13⟩ := kept_first HH.out.1 hks
    have HK : Hid (S.ks = p1 :: kr ∧ S.ss = s1 :: sr ∧ S.kv = .slice (some ⟨g, 0, none⟩) (kr.length + 1) c) := ⟨hks, hss, hkv⟩
    have hA0 : A0 = some ⟨g, 0, none⟩ ∧ c0 = c := by
      have := HH.out.2.2.2
      rw [hkv] at this
      simp only [Value.slice.injEq] at this
      exact ⟨this.1.symm, this.2.2.symm⟩
    obtain ⟨rfl, rfl⟩ := hA0
    have HCL : Hid (∀ W, Below w.heap.size w W → Calls Tryz.prog 136 #[hptr p1.sp] W fun e w' => e = .returned (.tuple #[]) ∧ ClearPost w lo hp p1.sp S.hv S.D S.R (S.s0 :: S.sn :: sr) w') := fun W hW => by
      have hsp : SpAt w hp p1.sp s1 := by
        have := HH.out.1.sps 0 (by rw [hks]; simp)
        rw [hks, hss] at this
        exact this
      have hlk := HH.out.1.lenk
      have hl8 := HH.out.2.2.1
      rw [hks, hss] at hlk
      rw [hks] at hl8
      have hp1 : (S.s0 :: S.sn :: S.ss).Perm (s1 :: S.s0 :: S.sn :: sr) := by
        rw [hss]
        exact ((List.Perm.swap _ _ _).cons _).trans (List.Perm.swap _ _ _)
      refine (Clear_any lo hp p1.sp S.hv S.D S.R s1 (S.s0 :: S.sn :: sr) W (HH.out.1.host.below hW) (hsp.below hW) (HH.out.1.sys.perm hp1) (by simp at hlk hl8 ⊢; omega)).mono fun e w' ⟨he, hc⟩ => ⟨he, ?_⟩
      obtain ⟨D', R', a, b, d, hT⟩ := hc
      exact ⟨D', R', a, b, d, SpTo.trans (fun _ e => Or.inl e) (Chg.of_below hW) hT⟩
    clear hks hss hkv
    go_enter Tryz.func138, Tryz.ntmps138
    go_wp2_with fail
    go_quiet (fail)
    all_goals
      obtain ⟨W1, hW1⟩ : ∃ W1, W1 = w.drewN nq := ⟨_, rfl⟩
      have HB1 : Hid (Below w.heap.size w W1) := by show Below _ _ _; rw [hW1]; exact below_drewN _ _
      have y34 := (HB1.out.cell (p := ⟨kp, 34, none⟩) kl).trans k34
      have y13 := (HB1.out.cell (p := ⟨g, 13, none⟩) hgl).trans hg13
      rw [← hW1]
      clear hW1 k34 hg13 k2
      have hlpos : (0 : Int) < (S.ks.length : Int) := by have := HH.out.2.1.k8; omega
      go_wp2_with fail
      refine (HCL.out _ HB1.out).mono ?_
      rintro e w2 ⟨rfl, hcl⟩
      have hkept2 : w2.ownsRow lo 153 15 (.slice (some ⟨g, 0, none⟩) S.ks.length c0) S.ks.length (flatP S.ks) ∧ Chg (fun x => S.hv.foot x ∨ x = p1.sp) w w2 := by
        obtain ⟨_, _, _, _, _, hT⟩ := hcl
        have hcc := SpTo.chg' hT
        have hk := HH.out.1.kept
        have hgb := (HH.out.1.kept_box (g := g) (by rw [HH.out.2.2.2]; rfl)).1
        refine ⟨?_, hcc⟩
        have := hcc.owns hk (fun x hx e => by
          have hxb := (HH.out.1.kept_box hx).1
          rcases e with e | e
          · exact (BoxT.off hxb HH.out.1.host (by decide) (by decide) (by decide)).1 e
          · have hb4 := HH.out.1.boxes.2.2.2 0 (by rw [HK.out.1]; simp)
            rw [HK.out.1] at hb4
            exact BoxT.ne hxb hb4 (by decide) e)
        rwa [HH.out.2.2.2] at this
      have hbx2 : w2.heap[kp]? = some (.cells (skL F E K ev S.p0 S.pn S.kv).toArray 156 (0, 0)) := hkept2.2.box HH.out.1.box (by
        rintro (e | e)
        · exact (BoxT.off HH.out.1.boxes.1 HH.out.1.host (by decide) (by decide) (by decide)).1 e
        · have hb4 := HH.out.1.boxes.2.2.2 0 (by rw [HK.out.1]; simp)
          rw [HK.out.1] at hb4
          exact BoxT.ne HH.out.1.boxes.1 hb4 (by decide) e)
      obtain ⟨-, -, -, -, -, -, -, u34, uf, ul⟩ := sk_cells hbx2
      rw [HH.out.2.2.2] at u34
      have HC2 : Hid (ClearPost w lo hp p1.sp S.hv S.D S.R (S.s0 :: S.sn :: sr) w2 ∧ w2.heap[kp]? = some (.cells (skL F E K ev S.p0 S.pn S.kv).toArray 156 (0, 0))) := ⟨hcl, hbx2⟩
      have HDL : Hid (Calls Tryz.prog 159 #[.slice (some ⟨g, 0, none⟩) S.ks.length c0, .int .i64 0, .int .i64 1] w2 fun e w' => e = .returned (.slice (some ⟨g, 0, none⟩) kr.length c0) ∧ w'.ownsRow lo 153 15 (.slice (some ⟨g, 0, none⟩) kr.length c0) kr.length (flatP kr) ∧ Chg (fun b => b = g) w2 w') := by
        have hn1 : S.ks.length - 1 = kr.length := by rw [HK.out.1]; simp
        refine (delete_any lo g S.ks.length c0 S.ks w2 hkept2.1 (by omega) rfl HH.out.2.2.1 (fun p hp => ?_)).mono fun e w' hd => ?_
        · exact (HH.out.1.read HH.out.2.2.1).sh p (Or.inr hp)
        · rw [hn1, HK.out.1] at hd
          exact hd
      clear hcl hkept2 hbx2 y13 y34 HCL
      go_wp2_with fail
      refine HDL.out.mono ?_
      rintro e w3 ⟨rfl, hd1, hd2⟩
      have hkg : kp ≠ g := BoxT.ne HH.out.1.boxes.1 (HH.out.1.kept_box (g := g) (by rw [HH.out.2.2.2]; rfl)).1 (by decide)
      have hbx3 := hd2.box HC2.out.2 hkg
      obtain ⟨-, -, -, -, -, -, -, t34, tf, tl⟩ := sk_cells hbx3
      have HR0 : Hid (∃ S1, RoomAt w lo hp kp F E K ev M Wr cnt S (w3.setCell ⟨kp, 34, none⟩ (.slice (some ⟨g, 0, none⟩) kr.length c0)) S1 ∧ S1.kv = .slice (some ⟨g, 0, none⟩) kr.length c0 ∧ S1.ks = kr) := shed_room HH.out.1 HH.out.2.1 HK.out.1 HK.out.2.1 HK.out.2.2 HC2.out.1 hd1 hd2 rfl
      clear hd1 hd2 hbx3 u34 uf ul HDL
      go_upto_region 4 with fail
      obtain ⟨S1, hR, -, -⟩ := HR0.out
      obtain ⟨Wb, hWb⟩ : ∃ Wb, Wb = w3.setCell ⟨kp, 34, none⟩ (.slice (some ⟨g, 0, none⟩) kr.length c0) := ⟨_, rfl⟩
      rw [← hWb] at hR ⊢
      have HR : Hid (RoomAt w lo hp kp F E K ev M Wr cnt S Wb S1) := hR
      clear hR hWb HR0 t34 tf tl kf kl
      have hat := HR.out.step.at_
      have hlow1 : lo ≤ Wb.heap.size := Nat.le_trans hlow HR.out.step.chg.size
      have hr8 : S1.ks.length ≤ 7 := by have := HR.out.room; have := HR.out.ok.k8; omega
      obtain ⟨B0, d0, hkv1⟩ := row_shape' hat.kept
      have HPF : Hid (Calls Tryz.prog 134 #[.agg S1.pn.cells.toArray] Wb fun e w' => PForkPost Wb lo hp S1.hv S1.D S1.R S1.sn (S1.s0 :: S1.ss) S1.pn e w') := by
        obtain ⟨A1, a1, e1⟩ := hat.gn.regs.shape
        obtain ⟨A2, a2, e2⟩ := hat.gn.out.shape
        refine pfork_any lo hp S1.hv S1.D S1.R S1.sn (S1.s0 :: S1.ss) S1.pn Wb hat.host hat.spn (hat.sys.perm (List.Perm.swap _ _ _)) ?_ ⟨_, _, _, e1⟩ ⟨_, _, _, e2⟩
        have := hat.lenk
        simp only [List.length_cons]
        omega
      have HRN : Hid (Wb.rangeAt kp 19 S1.pn.cells) := (sk_now hat.box).1
      have HKV : Hid (S1.kv = .slice B0 S1.ks.length d0) := hkv1
      clear hat hkv1
      go_wp2_with (first
        | (refine wpList_load_mid rfl 153 (.tmp 35) rfl kp 19 rfl S1.pn.cells _ HRN.out Tryz.underlying153 rfl HSZ.out ?_))
      refine HPF.out.mono ?_
      rintro e w5 ⟨fp, R1, rfl, hfp, hsp, hsys, hRl, v5, hh5, hf5, hc5⟩
      have hat := HR.out.step.at_
      obtain ⟨q', hq'⟩ : ∃ q' : PtV, q' = { S1.pn with sp := fp } := ⟨_, rfl⟩
      rw [← hq']
      have HQ' : Hid (q' = { S1.pn with sp := fp }) := hq'
      obtain ⟨Ar, ar, hrv⟩ := hat.gn.regs.shape
      obtain ⟨Ao, ao, hov⟩ := hat.gn.out.shape
      have HO' : Hid (q'.cells.toArray.all (·.oneCell') = true) := by
        rw [hq']
        exact cells_one _ ⟨_, _, _, hrv⟩ ⟨_, _, _, hov⟩
      have hbx5 := hc5.box hat.box (BoxT.off ⟨_, hat.box⟩ hat.host (by decide) (by decide) (by decide)).1
      have HT : Hid (Wb.heap.size ≤ fp ∧ SpAt w5 hp fp S1.sn ∧ Sys S1.D R1 (S1.sn :: S1.sn :: S1.s0 :: S1.ss) ∧ R1.length = S1.R.length ∧ HostAt w5 lo hp v5 S1.D R1 ∧ (∀ g, v5.foot g → S1.hv.foot g ∨ Wb.heap.size ≤ g) ∧ Chg S1.hv.foot Wb w5 ∧ w5.heap[kp]? = some (.cells (skL F E K ev S1.p0 S1.pn S1.kv).toArray 156 (0, 0))) := ⟨hfp, hsp, hsys, hRl, hh5, hf5, hc5, hbx5⟩
      have hkept5 : w5.ownsRow lo 153 15 S1.kv S1.ks.length (flatP S1.ks) := hc5.owns hat.kept (fun x hx e => (BoxT.off (hat.kept_box hx).1 hat.host (by decide) (by decide) (by decide)).1 e)
      have HK5 : Hid (w5.ownsRow lo 153 15 (.slice B0 S1.ks.length d0) S1.ks.length (flatP S1.ks) ∧ Wb.heap.size ≤ w5.heap.size) := ⟨by rw [← HKV.out]; exact hkept5, hc5.size⟩
      clear hfp hsp hsys hRl hh5 hf5 hc5 hkept5 hat HPF HRN
      have HSN2 : Hid ((w5.alloc (.cells zerP 153)).heap[w5.heap.size]? = some (.cells zerP 153 (0, 0)) ∧ (w5.alloc (.cells zerP 153)).setRow w5.heap.size q'.cells.toArray = w5.alloc (.cells q'.cells.toArray 153)) := ⟨Go.Deep.blk_alloc_new _ _, World.setRow_alloc_new _ _ _ _⟩
      obtain ⟨W6, hW6⟩ : ∃ W6, W6 = w5.alloc (.cells q'.cells.toArray 153) := ⟨_, rfl⟩
      have HW6 : Hid (W6 = w5.alloc (.cells q'.cells.toArray 153)) := hW6
      have hq6 : W6.heap[w5.heap.size]? = some (.cells q'.cells.toArray 153 (0, 0)) := by rw [hW6]; exact Go.Deep.blk_alloc_new _ _
      have hb6 : Below w5.heap.size w5 W6 := by rw [hW6]; exact below_alloc _ _
      have hbx6 : W6.heap[kp]? = some (.cells (skL F E K ev S1.p0 S1.pn S1.kv).toArray 156 (0, 0)) := by rw [hb6.block _ (lt_of_block hbx5)]; exact hbx5
      obtain ⟨-, -, -, -, -, -, -, z34, zf, zl⟩ := sk_cells hbx6
      rw [HKV.out] at z34
      have HB6 : Hid (Below w5.heap.size w5 W6 ∧ W6.heap[w5.heap.size]? = some (.cells q'.cells.toArray 153 (0, 0)) ∧ W6.heap.size = w5.heap.size + 1) := ⟨hb6, hq6, by rw [hW6]; simp⟩
      have HQE : Hid (∃ Ar ar Ao ao, q'.rv = .slice Ar q'.m.regs.length ar ∧ q'.ov = .slice Ao q'.m.out.length ao) := ⟨Ar, ar, Ao, ao, by rw [hq']; exact hrv, by rw [hq']; exact hov⟩
      clear hW6 hb6 hbx6 hbx5 hq' hrv hov
      go_upto_region 7 with (first
        | (refine wpList_store_row rfl 153 (.tmp 3) (.tmp 38) rfl w5.heap.size q'.cells.toArray rfl rfl 153 _ HSN2.out.1 HSZ.out rfl HO'.out ?_; rw [HSN2.out.2, ← HW6.out]))
      obtain ⟨Ar, ar, Ao, ao, er, eo⟩ := HQE.out
      have hcl : q'.cells = [.int .i64 q'.place, .slice Ar q'.m.regs.length ar, .int .i64 q'.m.pc, .int .i64 q'.m.back, .bool q'.m.ints, .bool q'.m.wait, .int .i64 q'.m.table, .int .i64 q'.m.count, .int .i64 q'.m.fin, nilv, .slice Ao q'.m.out.length ao, .int .i64 q'.m.ready, .int .i64 q'.m.want, hptr q'.sp, .int .i64 q'.wrote] := by unfold PtV.cells; rw [er, eo]
      have hq7 : W6.heap[w5.heap.size]? = some (.cells #[.int .i64 q'.place, .slice Ar q'.m.regs.length ar, .int .i64 q'.m.pc, .int .i64 q'.m.back, .bool q'.m.ints, .bool q'.m.wait, .int .i64 q'.m.table, .int .i64 q'.m.count, .int .i64 q'.m.fin, nilv, .slice Ao q'.m.out.length ao, .int .i64 q'.m.ready, .int .i64 q'.m.want, hptr q'.sp, .int .i64 q'.wrote] 153 (0, 0)) := by rw [HB6.out.2.1, hcl]
      obtain ⟨⟨y0, y1, y2, y3, y4, y5, y6, y7, y8, y9, y10, y11, y12, y13, y14⟩, yf, yl⟩ := fifteen_cells hq7
      have HOW6 : Hid (W6.ownsRow lo 153 15 (.slice B0 S1.ks.length d0) S1.ks.length (flatP S1.ks)) := ownsRow_below HK5.out.1 HB6.out.1
      have HNB : Hid (∀ j u, ([.int .i64 q'.place, .slice Ar q'.m.regs.length ar, .int .i64 q'.m.pc, .int .i64 q'.m.back, .bool q'.m.ints, .bool q'.m.wait, .int .i64 q'.m.table, .int .i64 q'.m.count, .int .i64 q'.m.fin, nilv, .slice Ao q'.m.out.length ao, .int .i64 q'.m.ready, .int .i64 q'.m.want, hptr q'.sp, .int .i64 q'.wrote] : List Value)[j]? = some u → (W6.alloc (.cells #[.int .i64 q'.place, .slice Ar q'.m.regs.length ar, .int .i64 q'.m.pc, .int .i64 q'.m.back, .bool q'.m.ints, .bool q'.m.wait, .int .i64 q'.m.table, .int .i64 q'.m.count, .int .i64 q'.m.fin, nilv, .slice Ao q'.m.out.length ao, .int .i64 q'.m.ready, .int .i64 q'.m.want, hptr q'.sp, .int .i64 q'.wrote] 153)).drew.cell? ((⟨W6.heap.size, 0, none⟩ : Addr).add j) = some u) := World.news_of_block (cs := #[.int .i64 q'.place, .slice Ar q'.m.regs.length ar, .int .i64 q'.m.pc, .int .i64 q'.m.back, .bool q'.m.ints, .bool q'.m.wait, .int .i64 q'.m.table, .int .i64 q'.m.count, .int .i64 q'.m.fin, nilv, .slice Ao q'.m.out.length ao, .int .i64 q'.m.ready, .int .i64 q'.m.want, hptr q'.sp, .int .i64 q'.wrote]) (Go.Deep.blk_alloc_new W6 _)
      have HON : Hid (∀ u ∈ ([.int .i64 q'.place, .slice Ar q'.m.regs.length ar, .int .i64 q'.m.pc, .int .i64 q'.m.back, .bool q'.m.ints, .bool q'.m.wait, .int .i64 q'.m.table, .int .i64 q'.m.count, .int .i64 q'.m.fin, nilv, .slice Ao q'.m.out.length ao, .int .i64 q'.m.ready, .int .i64 q'.m.want, hptr q'.sp, .int .i64 q'.wrote] : List Value), u.oneCell' = true) := by
        intro u hu
        rw [← hcl] at hu
        exact (Array.all_eq_true_iff_forall_mem.1 HO'.out) u (by simpa using hu)
      have HCL2 : Hid (q'.cells = [.int .i64 q'.place, .slice Ar q'.m.regs.length ar, .int .i64 q'.m.pc, .int .i64 q'.m.back, .bool q'.m.ints, .bool q'.m.wait, .int .i64 q'.m.table, .int .i64 q'.m.count, .int .i64 q'.m.fin, nilv, .slice Ao q'.m.out.length ao, .int .i64 q'.m.ready, .int .i64 q'.m.want, hptr q'.sp, .int .i64 q'.wrote]) := hcl
      have hzl : lo ≤ W6.heap.size := by have := HB6.out.2.2; have := HK5.out.2; omega
      have HC8 : Hid (∀ w8, World.grownBy (W6.alloc (.cells #[.int .i64 q'.place, .slice Ar q'.m.regs.length ar, .int .i64 q'.m.pc, .int .i64 q'.m.back, .bool q'.m.ints, .bool q'.m.wait, .int .i64 q'.m.table, .int .i64 q'.m.count, .int .i64 q'.m.fin, nilv, .slice Ao q'.m.out.length ao, .int .i64 q'.m.ready, .int .i64 q'.m.want, hptr q'.sp, .int .i64 q'.wrote] 153)).drew w8 (Value.slice B0 S1.ks.length d0).ownBlock → w8.cell? ⟨kp, 34, none⟩ = some (.slice B0 S1.ks.length d0) ∧ w8.frozen? ⟨kp, 34, none⟩ = false ∧ kp < w8.heap.size) := by
        have hkn : some kp ≠ (Value.slice B0 S1.ks.length d0).ownBlock := fun e => by
          rw [← HKV.out] at e
          exact BoxT.ne HR.out.step.at_.boxes.1 (HR.out.step.at_.kept_box e.symm).1 (by decide) rfl
        intro w8 hg
        have hbA : Below W6.heap.size W6 (W6.alloc (.cells #[.int .i64 q'.place, .slice Ar q'.m.regs.length ar, .int .i64 q'.m.pc, .int .i64 q'.m.back, .bool q'.m.ints, .bool q'.m.wait, .int .i64 q'.m.table, .int .i64 q'.m.count, .int .i64 q'.m.fin, nilv, .slice Ao q'.m.out.length ao, .int .i64 q'.m.ready, .int .i64 q'.m.want, hptr q'.sp, .int .i64 q'.wrote] 153)).drew := (below_alloc W6 _).drew
        have hlt : kp < ((W6.alloc (.cells #[.int .i64 q'.place, .slice Ar q'.m.regs.length ar, .int .i64 q'.m.pc, .int .i64 q'.m.back, .bool q'.m.ints, .bool q'.m.wait, .int .i64 q'.m.table, .int .i64 q'.m.count, .int .i64 q'.m.fin, nilv, .slice Ao q'.m.out.length ao, .int .i64 q'.m.ready, .int .i64 q'.m.want, hptr q'.sp, .int .i64 q'.wrote] 153)).drew).heap.size := Nat.lt_of_lt_of_le zl hbA.size
        exact ⟨(hg.cell_far ⟨kp, 34, none⟩ hlt hkn).trans ((hbA.cell (p := ⟨kp, 34, none⟩) zl).trans z34), (hg.frozen_far ⟨kp, 34, none⟩ hlt hkn).trans ((hbA.frozen (p := ⟨kp, 34, none⟩) zl).trans (zf _)), Nat.lt_of_lt_of_le hlt hg.size⟩
      have HWB : Hid (Below w5.heap.size w5 (W6.alloc (.cells #[.int .i64 q'.place, .slice Ar q'.m.regs.length ar, .int .i64 q'.m.pc, .int .i64 q'.m.back, .bool q'.m.ints, .bool q'.m.wait, .int .i64 q'.m.table, .int .i64 q'.m.count, .int .i64 q'.m.fin, nilv, .slice Ao q'.m.out.length ao, .int .i64 q'.m.ready, .int .i64 q'.m.want, hptr q'.sp, .int .i64 q'.wrote] 153)).drew) := HB6.out.1.trans ((below_alloc W6 _).drew.mono (by have := HB6.out.2.2; omega))
      clear hcl hq7 hq6 er eo
      go_region_law ((refine step_append_lies _ (by rfl) _ _ _ (by rfl) lo 153 i0 (.agg zerP) 15 160 Tryz.underlying154 hi0 hz0 hz1 hz2 rfl (by decide) (.slice B0 S1.ks.length d0) S1.ks.length (flatP S1.ks) (by rfl) ((HOW6.out.alloc _).drew) ⟨W6.heap.size, 0, none⟩ 1 1 [.int .i64 q'.place, .slice Ar q'.m.regs.length ar, .int .i64 q'.m.pc, .int .i64 q'.m.back, .bool q'.m.ints, .bool q'.m.wait, .int .i64 q'.m.table, .int .i64 q'.m.count, .int .i64 q'.m.fin, nilv, .slice Ao q'.m.out.length ao, .int .i64 q'.m.ready, .int .i64 q'.m.want, hptr q'.sp, .int .i64 q'.wrote] (by rfl) (by rfl) HNB.out HON.out (by decide) (by unfold maxLen; omega) (by omega) (by simp; omega) (W6.heap.size + 1) (by simp) ?_; intro g4 cap4 w8 hown4 hgrow4 hat4 hlt4; have HG4 : Hid (_ ∧ _ ∧ _) := ⟨hown4, hgrow4, hat4⟩; obtain ⟨e34, ef, el⟩ := HC8.out w8 hgrow4; clear hown4 hgrow4 hat4 hlt4))
      all_goals
        go_wp2_with fail
        go_ret
        have hl1 : (S1.ks ++ [({ S1.pn with sp := fp } : PtV)]).length = S1.ks.length + 1 := by simp
        have hf1 : flatP (S1.ks ++ [({ S1.pn with sp := fp } : PtV)]) = flatP S1.ks ++ [.int .i64 q'.place, .slice Ar q'.m.regs.length ar, .int .i64 q'.m.pc, .int .i64 q'.m.back, .bool q'.m.ints, .bool q'.m.wait, .int .i64 q'.m.table, .int .i64 q'.m.count, .int .i64 q'.m.fin, nilv, .slice Ao q'.m.out.length ao, .int .i64 q'.m.ready, .int .i64 q'.m.want, hptr q'.sp, .int .i64 q'.wrote] := by rw [flatP_snoc, ← HQ'.out, HCL2.out]
        refine more_end HR.out hlow1 HT.out.2.2.2.2.1 HT.out.2.2.2.2.2.1 HT.out.2.2.2.2.2.2.1 HT.out.1 HT.out.2.1 HT.out.2.2.1 HT.out.2.2.2.1 HWB.out (by rw [hl1, hf1]; exact HG4.out.1) (by rw [HKV.out]; exact HG4.out.2.1) ?_ rfl
        rcases HG4.out.2.2 with e4 | e4
        · exact Or.inl (by rw [HKV.out, e4]; rfl)
        · refine Or.inr (fun g5 e5 => ?_)
          have := HB6.out.2.2
          have := HK5.out.2
          simp [Value.ownBlock] at e5
          omega
  · have g1 : ((S.ks.length : Int) == K) = false := by simp [hfull]
    go_enter Tryz.func138, Tryz.ntmps138
    go_wp2_with fail
    go_quiet (fail)
    all_goals
      obtain ⟨Wb, hWb⟩ : ∃ Wb, Wb = w.drewN nq := ⟨_, rfl⟩
      have hB1 : Below w.heap.size w Wb := by rw [hWb]; exact below_drewN _ _
      obtain ⟨S1, hS1⟩ : ∃ S1, S1 = S := ⟨_, rfl⟩
      have HR : Hid (RoomAt w lo hp kp F E K ev M Wr cnt S Wb S1) := by
        rw [hS1]
        exact ⟨SkTo.same HH.out.1 hB1, HH.out.2.1, by have := HH.out.2.1.few; omega, rfl⟩
      rw [← hWb]
      clear hWb hB1 hS1 k34 k2 kf kl
      go_upto_region 4 with fail
      have hat := HR.out.step.at_
      have hlow1 : lo ≤ Wb.heap.size := Nat.le_trans hlow HR.out.step.chg.size
      have hr8 : S1.ks.length ≤ 7 := by have := HR.out.room; have := HR.out.ok.k8; omega
      obtain ⟨B0, d0, hkv1⟩ := row_shape' hat.kept
      have HPF : Hid (Calls Tryz.prog 134 #[.agg S1.pn.cells.toArray] Wb fun e w' => PForkPost Wb lo hp S1.hv S1.D S1.R S1.sn (S1.s0 :: S1.ss) S1.pn e w') := by
        obtain ⟨A1, a1, e1⟩ := hat.gn.regs.shape
        obtain ⟨A2, a2, e2⟩ := hat.gn.out.shape
        refine pfork_any lo hp S1.hv S1.D S1.R S1.sn (S1.s0 :: S1.ss) S1.pn Wb hat.host hat.spn (hat.sys.perm (List.Perm.swap _ _ _)) ?_ ⟨_, _, _, e1⟩ ⟨_, _, _, e2⟩
        have := hat.lenk
        simp only [List.length_cons]
        omega
      have HRN : Hid (Wb.rangeAt kp 19 S1.pn.cells) := (sk_now hat.box).1
      have HKV : Hid (S1.kv = .slice B0 S1.ks.length d0) := hkv1
      clear hat hkv1
      go_wp2_with (first
        | (refine wpList_load_mid rfl 153 (.tmp 35) rfl kp 19 rfl S1.pn.cells _ HRN.out Tryz.underlying153 rfl HSZ.out ?_))
      refine HPF.out.mono ?_
      rintro e w5 ⟨fp, R1, rfl, hfp, hsp, hsys, hRl, v5, hh5, hf5, hc5⟩
      have hat := HR.out.step.at_
      obtain ⟨q', hq'⟩ : ∃ q' : PtV, q' = { S1.pn with sp := fp } := ⟨_, rfl⟩
      rw [← hq']
      have HQ' : Hid (q' = { S1.pn with sp := fp }) := hq'
      obtain ⟨Ar, ar, hrv⟩ := hat.gn.regs.shape
      obtain ⟨Ao, ao, hov⟩ := hat.gn.out.shape
      have HO' : Hid (q'.cells.toArray.all (·.oneCell') = true) := by
        rw [hq']
        exact cells_one _ ⟨_, _, _, hrv⟩ ⟨_, _, _, hov⟩
      have hbx5 := hc5.box hat.box (BoxT.off ⟨_, hat.box⟩ hat.host (by decide) (by decide) (by decide)).1
      have HT : Hid (Wb.heap.size ≤ fp ∧ SpAt w5 hp fp S1.sn ∧ Sys S1.D R1 (S1.sn :: S1.sn :: S1.s0 :: S1.ss) ∧ R1.length = S1.R.length ∧ HostAt w5 lo hp v5 S1.D R1 ∧ (∀ g, v5.foot g → S1.hv.foot g ∨ Wb.heap.size ≤ g) ∧ Chg S1.hv.foot Wb w5 ∧ w5.heap[kp]? = some (.cells (skL F E K ev S1.p0 S1.pn S1.kv).toArray 156 (0, 0))) := ⟨hfp, hsp, hsys, hRl, hh5, hf5, hc5, hbx5⟩
      have hkept5 : w5.ownsRow lo 153 15 S1.kv S1.ks.length (flatP S1.ks) := hc5.owns hat.kept (fun x hx e => (BoxT.off (hat.kept_box hx).1 hat.host (by decide) (by decide) (by decide)).1 e)
      have HK5 : Hid (w5.ownsRow lo 153 15 (.slice B0 S1.ks.length d0) S1.ks.length (flatP S1.ks) ∧ Wb.heap.size ≤ w5.heap.size) := ⟨by rw [← HKV.out]; exact hkept5, hc5.size⟩
      clear hfp hsp hsys hRl hh5 hf5 hc5 hkept5 hat HPF HRN
      have HSN2 : Hid ((w5.alloc (.cells zerP 153)).heap[w5.heap.size]? = some (.cells zerP 153 (0, 0)) ∧ (w5.alloc (.cells zerP 153)).setRow w5.heap.size q'.cells.toArray = w5.alloc (.cells q'.cells.toArray 153)) := ⟨Go.Deep.blk_alloc_new _ _, World.setRow_alloc_new _ _ _ _⟩
      obtain ⟨W6, hW6⟩ : ∃ W6, W6 = w5.alloc (.cells q'.cells.toArray 153) := ⟨_, rfl⟩
      have HW6 : Hid (W6 = w5.alloc (.cells q'.cells.toArray 153)) := hW6
      have hq6 : W6.heap[w5.heap.size]? = some (.cells q'.cells.toArray 153 (0, 0)) := by rw [hW6]; exact Go.Deep.blk_alloc_new _ _
      have hb6 : Below w5.heap.size w5 W6 := by rw [hW6]; exact below_alloc _ _
      have hbx6 : W6.heap[kp]? = some (.cells (skL F E K ev S1.p0 S1.pn S1.kv).toArray 156 (0, 0)) := by rw [hb6.block _ (lt_of_block hbx5)]; exact hbx5
      obtain ⟨-, -, -, -, -, -, -, z34, zf, zl⟩ := sk_cells hbx6
      rw [HKV.out] at z34
      have HB6 : Hid (Below w5.heap.size w5 W6 ∧ W6.heap[w5.heap.size]? = some (.cells q'.cells.toArray 153 (0, 0)) ∧ W6.heap.size = w5.heap.size + 1) := ⟨hb6, hq6, by rw [hW6]; simp⟩
      have HQE : Hid (∃ Ar ar Ao ao, q'.rv = .slice Ar q'.m.regs.length ar ∧ q'.ov = .slice Ao q'.m.out.length ao) := ⟨Ar, ar, Ao, ao, by rw [hq']; exact hrv, by rw [hq']; exact hov⟩
      clear hW6 hb6 hbx6 hbx5 hq' hrv hov
      go_upto_region 7 with (first
        | (refine wpList_store_row rfl 153 (.tmp 3) (.tmp 38) rfl w5.heap.size q'.cells.toArray rfl rfl 153 _ HSN2.out.1 HSZ.out rfl HO'.out ?_; rw [HSN2.out.2, ← HW6.out]))
      obtain ⟨Ar, ar, Ao, ao, er, eo⟩ := HQE.out
      have hcl : q'.cells = [.int .i64 q'.place, .slice Ar q'.m.regs.length ar, .int .i64 q'.m.pc, .int .i64 q'.m.back, .bool q'.m.ints, .bool q'.m.wait, .int .i64 q'.m.table, .int .i64 q'.m.count, .int .i64 q'.m.fin, nilv, .slice Ao q'.m.out.length ao, .int .i64 q'.m.ready, .int .i64 q'.m.want, hptr q'.sp, .int .i64 q'.wrote] := by unfold PtV.cells; rw [er, eo]
      have hq7 : W6.heap[w5.heap.size]? = some (.cells #[.int .i64 q'.place, .slice Ar q'.m.regs.length ar, .int .i64 q'.m.pc, .int .i64 q'.m.back, .bool q'.m.ints, .bool q'.m.wait, .int .i64 q'.m.table, .int .i64 q'.m.count, .int .i64 q'.m.fin, nilv, .slice Ao q'.m.out.length ao, .int .i64 q'.m.ready, .int .i64 q'.m.want, hptr q'.sp, .int .i64 q'.wrote] 153 (0, 0)) := by rw [HB6.out.2.1, hcl]
      obtain ⟨⟨y0, y1, y2, y3, y4, y5, y6, y7, y8, y9, y10, y11, y12, y13, y14⟩, yf, yl⟩ := fifteen_cells hq7
      have HOW6 : Hid (W6.ownsRow lo 153 15 (.slice B0 S1.ks.length d0) S1.ks.length (flatP S1.ks)) := ownsRow_below HK5.out.1 HB6.out.1
      have HNB : Hid (∀ j u, ([.int .i64 q'.place, .slice Ar q'.m.regs.length ar, .int .i64 q'.m.pc, .int .i64 q'.m.back, .bool q'.m.ints, .bool q'.m.wait, .int .i64 q'.m.table, .int .i64 q'.m.count, .int .i64 q'.m.fin, nilv, .slice Ao q'.m.out.length ao, .int .i64 q'.m.ready, .int .i64 q'.m.want, hptr q'.sp, .int .i64 q'.wrote] : List Value)[j]? = some u → (W6.alloc (.cells #[.int .i64 q'.place, .slice Ar q'.m.regs.length ar, .int .i64 q'.m.pc, .int .i64 q'.m.back, .bool q'.m.ints, .bool q'.m.wait, .int .i64 q'.m.table, .int .i64 q'.m.count, .int .i64 q'.m.fin, nilv, .slice Ao q'.m.out.length ao, .int .i64 q'.m.ready, .int .i64 q'.m.want, hptr q'.sp, .int .i64 q'.wrote] 153)).drew.cell? ((⟨W6.heap.size, 0, none⟩ : Addr).add j) = some u) := World.news_of_block (cs := #[.int .i64 q'.place, .slice Ar q'.m.regs.length ar, .int .i64 q'.m.pc, .int .i64 q'.m.back, .bool q'.m.ints, .bool q'.m.wait, .int .i64 q'.m.table, .int .i64 q'.m.count, .int .i64 q'.m.fin, nilv, .slice Ao q'.m.out.length ao, .int .i64 q'.m.ready, .int .i64 q'.m.want, hptr q'.sp, .int .i64 q'.wrote]) (Go.Deep.blk_alloc_new W6 _)
      have HON : Hid (∀ u ∈ ([.int .i64 q'.place, .slice Ar q'.m.regs.length ar, .int .i64 q'.m.pc, .int .i64 q'.m.back, .bool q'.m.ints, .bool q'.m.wait, .int .i64 q'.m.table, .int .i64 q'.m.count, .int .i64 q'.m.fin, nilv, .slice Ao q'.m.out.length ao, .int .i64 q'.m.ready, .int .i64 q'.m.want, hptr q'.sp, .int .i64 q'.wrote] : List Value), u.oneCell' = true) := by
        intro u hu
        rw [← hcl] at hu
        exact (Array.all_eq_true_iff_forall_mem.1 HO'.out) u (by simpa using hu)
      have HCL2 : Hid (q'.cells = [.int .i64 q'.place, .slice Ar q'.m.regs.length ar, .int .i64 q'.m.pc, .int .i64 q'.m.back, .bool q'.m.ints, .bool q'.m.wait, .int .i64 q'.m.table, .int .i64 q'.m.count, .int .i64 q'.m.fin, nilv, .slice Ao q'.m.out.length ao, .int .i64 q'.m.ready, .int .i64 q'.m.want, hptr q'.sp, .int .i64 q'.wrote]) := hcl
      have hzl : lo ≤ W6.heap.size := by have := HB6.out.2.2; have := HK5.out.2; omega
      have HC8 : Hid (∀ w8, World.grownBy (W6.alloc (.cells #[.int .i64 q'.place, .slice Ar q'.m.regs.length ar, .int .i64 q'.m.pc, .int .i64 q'.m.back, .bool q'.m.ints, .bool q'.m.wait, .int .i64 q'.m.table, .int .i64 q'.m.count, .int .i64 q'.m.fin, nilv, .slice Ao q'.m.out.length ao, .int .i64 q'.m.ready, .int .i64 q'.m.want, hptr q'.sp, .int .i64 q'.wrote] 153)).drew w8 (Value.slice B0 S1.ks.length d0).ownBlock → w8.cell? ⟨kp, 34, none⟩ = some (.slice B0 S1.ks.length d0) ∧ w8.frozen? ⟨kp, 34, none⟩ = false ∧ kp < w8.heap.size) := by
        have hkn : some kp ≠ (Value.slice B0 S1.ks.length d0).ownBlock := fun e => by
          rw [← HKV.out] at e
          exact BoxT.ne HR.out.step.at_.boxes.1 (HR.out.step.at_.kept_box e.symm).1 (by decide) rfl
        intro w8 hg
        have hbA : Below W6.heap.size W6 (W6.alloc (.cells #[.int .i64 q'.place, .slice Ar q'.m.regs.length ar, .int .i64 q'.m.pc, .int .i64 q'.m.back, .bool q'.m.ints, .bool q'.m.wait, .int .i64 q'.m.table, .int .i64 q'.m.count, .int .i64 q'.m.fin, nilv, .slice Ao q'.m.out.length ao, .int .i64 q'.m.ready, .int .i64 q'.m.want, hptr q'.sp, .int .i64 q'.wrote] 153)).drew := (below_alloc W6 _).drew
        have hlt : kp < ((W6.alloc (.cells #[.int .i64 q'.place, .slice Ar q'.m.regs.length ar, .int .i64 q'.m.pc, .int .i64 q'.m.back, .bool q'.m.ints, .bool q'.m.wait, .int .i64 q'.m.table, .int .i64 q'.m.count, .int .i64 q'.m.fin, nilv, .slice Ao q'.m.out.length ao, .int .i64 q'.m.ready, .int .i64 q'.m.want, hptr q'.sp, .int .i64 q'.wrote] 153)).drew).heap.size := Nat.lt_of_lt_of_le zl hbA.size
        exact ⟨(hg.cell_far ⟨kp, 34, none⟩ hlt hkn).trans ((hbA.cell (p := ⟨kp, 34, none⟩) zl).trans z34), (hg.frozen_far ⟨kp, 34, none⟩ hlt hkn).trans ((hbA.frozen (p := ⟨kp, 34, none⟩) zl).trans (zf _)), Nat.lt_of_lt_of_le hlt hg.size⟩
      have HWB : Hid (Below w5.heap.size w5 (W6.alloc (.cells #[.int .i64 q'.place, .slice Ar q'.m.regs.length ar, .int .i64 q'.m.pc, .int .i64 q'.m.back, .bool q'.m.ints, .bool q'.m.wait, .int .i64 q'.m.table, .int .i64 q'.m.count, .int .i64 q'.m.fin, nilv, .slice Ao q'.m.out.length ao, .int .i64 q'.m.ready, .int .i64 q'.m.want, hptr q'.sp, .int .i64 q'.wrote] 153)).drew) := HB6.out.1.trans ((below_alloc W6 _).drew.mono (by have := HB6.out.2.2; omega))
      clear hcl hq7 hq6 er eo
      go_region_law ((refine step_append_lies _ (by rfl) _ _ _ (by rfl) lo 153 i0 (.agg zerP) 15 160 Tryz.underlying154 hi0 hz0 hz1 hz2 rfl (by decide) (.slice B0 S1.ks.length d0) S1.ks.length (flatP S1.ks) (by rfl) ((HOW6.out.alloc _).drew) ⟨W6.heap.size, 0, none⟩ 1 1 [.int .i64 q'.place, .slice Ar q'.m.regs.length ar, .int .i64 q'.m.pc, .int .i64 q'.m.back, .bool q'.m.ints, .bool q'.m.wait, .int .i64 q'.m.table, .int .i64 q'.m.count, .int .i64 q'.m.fin, nilv, .slice Ao q'.m.out.length ao, .int .i64 q'.m.ready, .int .i64 q'.m.want, hptr q'.sp, .int .i64 q'.wrote] (by rfl) (by rfl) HNB.out HON.out (by decide) (by unfold maxLen; omega) (by omega) (by simp; omega) (W6.heap.size + 1) (by simp) ?_; intro g4 cap4 w8 hown4 hgrow4 hat4 hlt4; have HG4 : Hid (_ ∧ _ ∧ _) := ⟨hown4, hgrow4, hat4⟩; obtain ⟨e34, ef, el⟩ := HC8.out w8 hgrow4; clear hown4 hgrow4 hat4 hlt4))
      all_goals
        go_wp2_with fail
        go_ret
        have hl1 : (S1.ks ++ [({ S1.pn with sp := fp } : PtV)]).length = S1.ks.length + 1 := by simp
        have hf1 : flatP (S1.ks ++ [({ S1.pn with sp := fp } : PtV)]) = flatP S1.ks ++ [.int .i64 q'.place, .slice Ar q'.m.regs.length ar, .int .i64 q'.m.pc, .int .i64 q'.m.back, .bool q'.m.ints, .bool q'.m.wait, .int .i64 q'.m.table, .int .i64 q'.m.count, .int .i64 q'.m.fin, nilv, .slice Ao q'.m.out.length ao, .int .i64 q'.m.ready, .int .i64 q'.m.want, hptr q'.sp, .int .i64 q'.wrote] := by rw [flatP_snoc, ← HQ'.out, HCL2.out]
        refine more_end HR.out hlow1 HT.out.2.2.2.2.1 HT.out.2.2.2.2.2.1 HT.out.2.2.2.2.2.2.1 HT.out.1 HT.out.2.1 HT.out.2.2.1 HT.out.2.2.2.1 HWB.out (by rw [hl1, hf1]; exact HG4.out.1) (by rw [HKV.out]; exact HG4.out.2.1) ?_ rfl
        rcases HG4.out.2.2 with e4 | e4
        · exact Or.inl (by rw [HKV.out, e4]; rfl)
        · refine Or.inr (fun g5 e5 => ?_)
          have := HB6.out.2.2
          have := HK5.out.2
          simp [Value.ownBlock] at e5
          omega

end Go.Proofs.YtecpblabaelopaaGreatDoor
