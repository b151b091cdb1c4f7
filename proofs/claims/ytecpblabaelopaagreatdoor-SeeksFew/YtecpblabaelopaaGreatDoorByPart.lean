/- Bytes: plain notions; what a number, a number of any kind, the sum, and events are as bytes. -/
import Derived.Test.YtecpblabaelopaaGreatDoorBasePart
import Derived.Test.YtecpblabaelopaaGreatDoorOwnPart
import Derived.Maps.AppendAt
namespace Go.Proofs.YtecpblabaelopaaGreatDoor
open Go.RowKit
set_option maxRecDepth 100000

def sevensF : Nat → Nat → List Int
  | 0, n => [(n : Int)]
  | f + 1, n => if n < 128 then [(n : Int)] else ((128 + n % 128 : Nat) : Int) :: sevensF f (n / 128)
def sevens (n : Nat) : List Int := sevensF n n
theorem sevensF_same : ∀ (f f' n : Nat), n ≤ f → n ≤ f' → sevensF f n = sevensF f' n
  | 0, 0, _, _, _ => rfl
  | 0, f' + 1, n, h, _ => by
    obtain rfl : n = 0 := by omega
    simp [sevensF]
  | f + 1, 0, n, _, h => by
    obtain rfl : n = 0 := by omega
    simp [sevensF]
  | f + 1, f' + 1, n, h, h' => by
    rw [sevensF, sevensF]
    by_cases h1 : n < 128
    · rw [if_pos h1, if_pos h1]
    · rw [if_neg h1, if_neg h1, sevensF_same f f' (n / 128) (by omega) (by omega)]
theorem sevens_small {n : Nat} (h : n < 128) : sevens n = [(n : Int)] := by
  unfold sevens
  cases n with
  | zero => rfl
  | succ m => rw [sevensF, if_pos h]
theorem sevens_more {n : Nat} (h : ¬ n < 128) : sevens n = ((128 + n % 128 : Nat) : Int) :: sevens (n / 128) := by
  unfold sevens
  cases n with
  | zero => omega
  | succ m =>
    rw [sevensF, if_neg h]
    congr 1
    exact sevensF_same _ _ _ (by omega) (by omega)
theorem sevens_ne (n : Nat) : 0 < (sevens n).length := by
  by_cases h : n < 128
  · rw [sevens_small h]; simp
  · rw [sevens_more h]; simp
theorem sevens_len : ∀ (k n : Nat), n < 128 ^ (k + 1) → (sevens n).length ≤ k + 1
  | 0, n, h => by rw [sevens_small (by simpa using h)]; simp
  | k + 1, n, h => by
    by_cases h1 : n < 128
    · rw [sevens_small h1]; simp
    · rw [sevens_more h1]
      have : n / 128 < 128 ^ (k + 1) := Nat.div_lt_of_lt_mul (by rw [Nat.pow_succ] at h; omega)
      have := sevens_len k (n / 128) this
      simp
      omega
theorem sevens_len7 {n : Nat} (h : n < 562949953421312) : (sevens n).length ≤ 7 := sevens_len 6 n (by simpa using h)
theorem sevens_byte {n : Nat} : ∀ x ∈ sevens n, 0 ≤ x ∧ x ≤ 255 := by
  induction n using Nat.strongRecOn with
  | _ n ih =>
    intro x hx
    by_cases h1 : n < 128
    · rw [sevens_small h1] at hx
      simp at hx
      omega
    · rw [sevens_more h1] at hx
      rcases List.mem_cons.1 hx with rfl | hx
      · omega
      · exact ih (n / 128) (by omega) x hx
def zigs (z : Int) : List Int := if z < 0 then sevens (-2 * z - 1).toNat else sevens (2 * z).toNat
theorem zigs_len7 {z : Int} (h : -281474976710656 < z ∧ z < 281474976710656) : (zigs z).length ≤ 7 := by
  unfold zigs
  split <;> exact sevens_len7 (by omega)
def sumStep (s : Int × Int) (b : Int) : Int × Int := ((s.1 + b) % 65521, (s.2 + (s.1 + b) % 65521) % 65521)
def sumP (l : List Int) : Int × Int := l.foldl sumStep (1, 0)
def sumB (l : List Int) : List Int := [(sumP l).2 / 256, (sumP l).2 % 256, (sumP l).1 / 256, (sumP l).1 % 256]
theorem foldl_sum_bd (l : List Int) : ∀ s : Int × Int, (0 ≤ s.1 ∧ s.1 < 65521) → (0 ≤ s.2 ∧ s.2 < 65521) → (0 ≤ (l.foldl sumStep s).1 ∧ (l.foldl sumStep s).1 < 65521) ∧ (0 ≤ (l.foldl sumStep s).2 ∧ (l.foldl sumStep s).2 < 65521) := by
  induction l with
  | nil => intro s h1 h2; exact ⟨h1, h2⟩
  | cons b l ih =>
    intro s h1 h2
    exact ih _ (by simp only [sumStep]; omega) (by simp only [sumStep]; omega)
theorem sumP_bd (l : List Int) : (0 ≤ (sumP l).1 ∧ (sumP l).1 < 65521) ∧ (0 ≤ (sumP l).2 ∧ (sumP l).2 < 65521) := foldl_sum_bd l (1, 0) (by simp) (by simp)
theorem sumP_snoc (l : List Int) (b : Int) : sumP (l ++ [b]) = sumStep (sumP l) b := by simp [sumP]
theorem sumB_byte (l : List Int) : ∀ x ∈ sumB l, 0 ≤ x ∧ x ≤ 255 := by
  have := sumP_bd l
  intro x hx
  simp [sumB] at hx
  omega

def runsB (last : Int) (run : Nat) : List Int → List Int
  | [] => []
  | [x] => sevens (run + 1) ++ zigs (x - last)
  | x :: y :: t => if y = x then runsB last (run + 1) (y :: t) else sevens (run + 1) ++ zigs (x - last) ++ runsB x 0 (y :: t)
def runLen : List Int → Nat
  | [] => 0
  | [_] => 1
  | x :: y :: t => if y = x then runLen (y :: t) + 1 else 1
theorem runLen_le : ∀ l : List Int, runLen l ≤ l.length
  | [] => by simp [runLen]
  | [_] => by simp [runLen]
  | x :: y :: t => by
    have := runLen_le (y :: t)
    simp only [runLen]
    split <;> simp_all <;> omega
theorem runLen_pos : ∀ (x : Int) (t : List Int), 0 < runLen (x :: t)
  | _, [] => by simp [runLen]
  | x, y :: t => by simp only [runLen]; split <;> omega
theorem runsB_run : ∀ (t : List Int) (x last : Int) (run : Nat), runsB last run (x :: t) = sevens (run + runLen (x :: t)) ++ zigs (x - last) ++ runsB x 0 ((x :: t).drop (runLen (x :: t)))
  | [], x, last, run => by simp [runsB, runLen]
  | y :: t, x, last, run => by
    by_cases h : y = x
    · subst h
      rw [show runsB last run (y :: y :: t) = runsB last (run + 1) (y :: t) by simp [runsB], runsB_run t y last (run + 1)]
      rw [show runLen (y :: y :: t) = runLen (y :: t) + 1 by simp [runLen]]
      rw [List.drop_succ_cons]
      rw [show run + 1 + runLen (y :: t) = run + (runLen (y :: t) + 1) by omega]
    · simp [runsB, runLen, h]
def dataB (x : Ev) : List Int := if x.kind = 2 then runsB 0 0 x.data else if x.kind = 3 then zigs (x.data.getD 0 0) else []
def evB (last : Int) (x : Ev) : List Int := sevens (4 * (x.at_ - last) + x.kind).toNat ++ dataB x
def encFrom (last : Int) : List Ev → List Int
  | [] => []
  | x :: L => evB last x ++ encFrom x.at_ L
def encB (L : List Ev) : List Int := sevens L.length ++ encFrom 0 L
def fullB (L : List Ev) : List Int := encB L ++ sumB (encB L)

theorem runsB_len : ∀ (l : List Int) (last : Int) (run : Nat), run + l.length ≤ 1000 → (-1099511627776 ≤ last ∧ last ≤ 1099511627776) → (∀ x ∈ l, -1099511627776 ≤ x ∧ x ≤ 1099511627776) → (runsB last run l).length ≤ 14 * l.length
  | [], _, _, _, _, _ => by simp [runsB]
  | [x], last, run, hr, hl, hx => by
    have h1 := sevens_len7 (n := run + 1) (by simp at hr; omega)
    have hx0 := hx x (by simp)
    have h2 := zigs_len7 (z := x - last) (by omega)
    simp [runsB]
    omega
  | x :: y :: t, last, run, hr, hl, hx => by
    have hx0 := hx x (by simp)
    have h1 := sevens_len7 (n := run + 1) (by simp at hr; omega)
    have h2 := zigs_len7 (z := x - last) (by omega)
    by_cases h : y = x
    · have := runsB_len (y :: t) last (run + 1) (by simp at hr ⊢; omega) hl (fun z hz => hx z (List.mem_cons_of_mem _ hz))
      simp [runsB, h] at this ⊢
      omega
    · have := runsB_len (y :: t) x 0 (by simp at hr ⊢; omega) hx0 (fun z hz => hx z (List.mem_cons_of_mem _ hz))
      simp [runsB, h] at this ⊢
      omega
theorem word_bd {x : Int} (h : wordB x = true) : -1099511627776 ≤ x ∧ x ≤ 1099511627776 := by simpa [wordB, inB] using h
theorem allB_mem {l : List Int} (h : allB l = true) : ∀ x ∈ l, -1099511627776 ≤ x ∧ x ≤ 1099511627776 := fun x hx => by
  obtain ⟨i, hi, rfl⟩ := List.getElem_of_mem hx
  have := allB_iff.1 h i hi
  simp [List.getD, hi] at this
  exact word_bd this
theorem dataB_len {x : Ev} (h : evNo x = 0) : (dataB x).length ≤ 224 := by
  obtain ⟨hk, ha, hw, hl⟩ := evNo_bd h
  unfold dataB
  split
  · rename_i e
    have h16 : x.data.length = 16 := by simp [wordsN, e] at hl; omega
    have := runsB_len x.data 0 0 (by omega) (by simp) (allB_mem hw)
    omega
  · split
    · rename_i e e3
      have h1 : x.data.length = 1 := by simp [wordsN, e3] at hl; omega
      have hm := allB_mem hw (x.data.getD 0 0) (by
        match x.data, h1 with
        | [a], _ => simp)
      have := zigs_len7 (z := x.data.getD 0 0) (by omega)
      omega
    · simp

def OwnB (w : World) (lo : Nat) (v : Value) (l : List Int) : Prop := w.ownsRow lo 5 1 v l.length (l.map (Value.int .u8))
theorem OwnB.below {w w' : World} {lo : Nat} {v : Value} {l : List Int} (h : OwnB w lo v l) (hb : Below w.heap.size w w') : OwnB w' lo v l := ownsRow_below h hb
theorem OwnB.mono {w : World} {lo lo' : Nat} {v : Value} {l : List Int} (h : OwnB w lo v l) (hlo : lo' ≤ lo) : OwnB w lo' v l := ownsRow_mono h hlo
theorem OwnB.shape {w : World} {lo : Nat} {v : Value} {l : List Int} (h : OwnB w lo v l) : ∃ A c, v = .slice A l.length c := by
  rcases h.2 with ⟨rfl, hn⟩ | ⟨g, cap, cur, rfl, _⟩
  · exact ⟨none, 0, by rw [hn]⟩
  · exact ⟨_, _, rfl⟩
theorem OwnB.nil (w : World) (lo : Nat) : OwnB w lo (.slice none 0 0) [] := World.ownsRow_nil _ _ _ _
theorem OwnB.of {w : World} {lo : Nat} {v : Value} {l l' m : List Int} {n k : Nat} (h : w.ownsRow lo 5 1 v (n + k) (l.map (Value.int .u8) ++ m.map (Value.int .u8))) (hn : n = l.length) (hk : k = m.length) (e : l' = l ++ m) : OwnB w lo v l' := by
  subst e hn hk
  simpa [OwnB] using h
theorem OwnB.at {w : World} {lo : Nat} {v : Value} {l : List Int} (h : OwnB w lo v l) (h0 : 0 < l.length) : ∃ g cap, v = .slice (some ⟨g, 0, none⟩) l.length cap ∧ lo ≤ g ∧ g < w.heap.size ∧ (∀ j u, (l.map (Value.int .u8))[j]? = some u → w.cell? ((⟨g, 0, none⟩ : Addr).add j) = some u) := by
  obtain ⟨g, cap, rfl, hlo, hlt, _, hc, _⟩ := ownsRow_at h h0
  refine ⟨g, cap, rfl, hlo, hlt, fun j u hu => ?_⟩
  have hjl : j < l.length := by
    by_cases hh : j < l.length
    · exact hh
    · simp [List.getElem?_eq_none (show l.length ≤ j by omega)] at hu
  rw [Go.WideShapes.add_plain, Nat.zero_add, hc j hjl, hu]

structure Grown (w w' : World) (v v' : Value) : Prop where
  size : w.heap.size ≤ w'.heap.size
  block : ∀ g, g < w.heap.size → v.ownBlock ≠ some g → w'.heap[g]? = w.heap[g]?
  at_ : v'.ownBlock = v.ownBlock ∨ ∀ g, v'.ownBlock = some g → w.heap.size ≤ g
theorem Grown.refl (w : World) (v : Value) : Grown w w v v := ⟨Nat.le_refl _, fun _ _ _ => rfl, Or.inl rfl⟩
theorem Grown.trans {w w1 w2 : World} {v v1 v2 : Value} (h : Grown w w1 v v1) (k : Grown w1 w2 v1 v2) : Grown w w2 v v2 := by
  refine ⟨Nat.le_trans h.size k.size, fun g hg hn => ?_, ?_⟩
  · have h1 := h.block g hg hn
    have hn1 : v1.ownBlock ≠ some g := fun e => by
      rcases h.at_ with a | a
      · exact hn (a ▸ e)
      · have := a g e; omega
    rw [k.block g (Nat.lt_of_lt_of_le hg h.size) hn1, h1]
  · rcases k.at_ with a | a
    · rw [a]; exact h.at_
    · exact Or.inr fun g e => Nat.le_trans h.size (a g e)
theorem Grown.pre {w0 w w' : World} {v v' : Value} (hb : Below w0.heap.size w0 w) (h : Grown w w' v v') : Grown w0 w' v v' := by
  refine ⟨Nat.le_trans hb.size h.size, fun g hg hn => by rw [h.block g (Nat.lt_of_lt_of_le hg hb.size) hn, hb.block g hg], ?_⟩
  rcases h.at_ with a | a
  · exact Or.inl a
  · exact Or.inr fun g e => Nat.le_trans hb.size (a g e)
theorem Grown.post {w w' w1 : World} {v v' : Value} (h : Grown w w' v v') (hb : Below w'.heap.size w' w1) : Grown w w1 v v' :=
  ⟨Nat.le_trans h.size hb.size, fun g hg hn => by rw [hb.block g (Nat.lt_of_lt_of_le hg h.size), h.block g hg hn], h.at_⟩
theorem Grown.of_append {w0 w w' : World} {v v' : Value} {K : Nat} (hb : Below w0.heap.size w0 w) (hg : w.grownBy w' v.ownBlock) (ha : v'.ownBlock = v.ownBlock ∨ v'.ownBlock = some K) (hK : w0.heap.size ≤ K) : Grown w0 w' v v' := by
  refine ⟨Nat.le_trans hb.size hg.size, fun g hlt hn => by rw [hg.block g (Nat.lt_of_lt_of_le hlt hb.size) (fun e => hn e.symm), hb.block g hlt], ?_⟩
  rcases ha with a | a
  · exact Or.inl a
  · exact Or.inr fun g e => by rw [a] at e; simp at e; omega
theorem append_below {lo : Nat} {w0 w w' : World} {v : Value} {n : Nat} {xs : List Value} (hb : Below w0.heap.size w0 w) (hlo : lo ≤ w0.heap.size) (ho : w.ownsRow lo 5 1 v n xs) (hg : w.grownBy w' v.ownBlock) : Below lo w0 w' :=
  (hb.mono hlo).grown hg (Nat.le_trans hlo hb.size) (fun k hk => (World.ownsRow.lt ho k hk).1)

end Go.Proofs.YtecpblabaelopaaGreatDoor

/- Contracts of evlog.appendNumber and evlog.appendAnyKind. -/

namespace Go.Proofs.YtecpblabaelopaaGreatDoor
open Go.RowKit
set_option maxRecDepth 100000

theorem infoByte : (Tryz.prog.info? 5).map (fun i => (i.zero, i.size, i.bytes)) = some (some (.int .u8 0), 1, 1) := by kernel_rfl

structure Appd (lo : Nat) (w w' : World) (v v' : Value) (l : List Int) : Prop where
  own : OwnB w' lo v' l
  old : Below lo w w'
  grown : Grown w w' v v'
theorem Appd.trans {lo : Nat} {w w1 w2 : World} {v v1 v2 : Value} {l l' : List Int} (h : Appd lo w w1 v v1 l) (k : Appd lo w1 w2 v1 v2 l') : Appd lo w w2 v v2 l' := ⟨k.own, h.old.trans k.old, h.grown.trans k.grown⟩
theorem Appd.pre {lo : Nat} {w0 w w' : World} {v v' : Value} {l : List Int} (hb : Below w0.heap.size w0 w) (hlo : lo ≤ w0.heap.size) (h : Appd lo w w' v v' l) : Appd lo w0 w' v v' l := ⟨h.own, (hb.mono hlo).trans h.old, h.grown.pre hb⟩

set_option maxHeartbeats 1000000 in
theorem appendNumber_any (v : Value) (bs : List Int) (n lo : Nat) (w : World) (h : OwnB w lo v bs) (hlo : lo ≤ w.heap.size) (hn : n < 4611686018427387904) (hlen : bs.length + (sevens n).length ≤ 100000000) :
    Calls Tryz.prog 58 #[v, .int .i64 n] w fun e w' => ∃ v', e = .returned v' ∧ Appd lo w w' v v' (bs ++ sevens n) := by
  obtain ⟨i0, hi, hz0, hz1, hz2⟩ := info_parts infoByte
  have H0 : Hid (OwnB w lo v bs) := h
  clear h
  go_enter Tryz.func58, Tryz.ntmps58
  go_wp2
  go_loopw [0, 1] (fun o i wr => ∃ (m : Nat) (bs' : List Int), m ≤ n ∧ i = .int .i64 m ∧ Hid (bs ++ sevens n = bs' ++ sevens m) ∧ Hid (Appd lo w wr v o bs')) (fun _ i _ => (intOf i).toNat)
  case atStart => exact ⟨n, bs, Nat.le_refl _, rfl, rfl, ⟨H0.out, Below.refl _ _, Grown.refl _ _⟩⟩
  case round =>
    obtain ⟨m, bs', hm, rfl, hE, hI⟩ := hrel
    have hL : bs'.length + (sevens m).length ≤ 100000000 := by
      have := congrArg List.length hE.out
      simp at this
      omega
    have hmod : Int.tmod (m : Int) 128 = (m : Int) % 128 := Int.tmod_eq_emod_of_nonneg (by omega)
    have hdiv : Int.tdiv (m : Int) 128 = (m : Int) / 128 := Int.tdiv_eq_ediv_of_nonneg (by omega)
    have hsz := hI.out.old.size
    obtain ⟨A, c, rfl⟩ := hI.out.own.shape
    have HO : Hid (OwnB wr lo (.slice A bs'.length c) bs') := hI.out.own
    by_cases hlt : m < 128
    · have d0 : decide (128 ≤ (m : Int)) = false := by simp; omega
      have hwr : IntKind.u8.wrap (m : Int) = m := IntWalk.u8_in _ (by omega)
      have HS : Hid (bs ++ sevens n = bs' ++ [(m : Int)]) := by show _ = _; rw [hE.out, sevens_small hlt]
      rw [sevens_small hlt] at hL
      clear hmod hdiv hE
      go_wp2_with (first
        | (at_builtin; refine wpList_append_own_at _ rfl _ _ 25 rfl lo 5 i0 (.int .u8 0) 1 1 Tryz.underlying25 hi hz0 hz1 hz2 rfl (by decide) (.slice A bs'.length c) bs'.length (bs'.map (Value.int .u8)) rfl (World.ownsRow.alloc HO.out _) ⟨wr.heap.size, 0, none⟩ 1 1 [.int .u8 m] rfl rfl (cell_one_new _ _ _) (by intro u hu; simp at hu; subst hu; rfl) ?c3 ?c4 ?c5 ?_))
      case c3 => unfold maxLen; simp at hL; omega
      case c4 => simp at hL; omega
      case c5 => simp; omega
      intro v' w1 hown' hgrow _ hat
      have HR : Hid (Appd lo wr w1 (.slice A bs'.length c) v' (bs' ++ [(m : Int)])) := ⟨OwnB.of (m := [(m : Int)]) hown' rfl rfl rfl, append_below (below_alloc _ _) (Nat.le_trans hlo hsz) (World.ownsRow.alloc HO.out _) hgrow, Grown.of_append (below_alloc _ _) hgrow hat (by omega)⟩
      clear hown' hgrow hat
      go_wp2
      go_ret
      exact ⟨v', rfl, HS.out ▸ hI.out.trans HR.out⟩
    · have d0 : decide (128 ≤ (m : Int)) = true := by simp; omega
      have hwr : IntKind.u8.wrap ((m : Int) % 128 + 128) = (m : Int) % 128 + 128 := IntWalk.u8_in _ (by omega)
      have HS : Hid (bs ++ sevens n = (bs' ++ [(m : Int) % 128 + 128]) ++ sevens (m / 128)) := by
        show _ = _
        rw [hE.out, sevens_more hlt, List.append_assoc]
        congr 2
        omega
      rw [sevens_more hlt] at hL
      clear hE
      go_wp2_with (first
        | (at_builtin; refine wpList_append_own_at _ rfl _ _ 25 rfl lo 5 i0 (.int .u8 0) 1 1 Tryz.underlying25 hi hz0 hz1 hz2 rfl (by decide) (.slice A bs'.length c) bs'.length (bs'.map (Value.int .u8)) rfl (World.ownsRow.alloc HO.out _) ⟨wr.heap.size, 0, none⟩ 1 1 [.int .u8 ((m : Int) % 128 + 128)] rfl rfl ?c1 (by intro u hu; simp at hu; subst hu; rfl) ?c3 ?c4 ?c5 ?_))
      case c1 => exact cell_one_new _ _ _
      case c3 => unfold maxLen; simp at hL; omega
      case c4 => simp at hL; omega
      case c5 => simp; omega
      intro v' w1 hown' hgrow _ hat
      have HR : Hid (Appd lo wr w1 (.slice A bs'.length c) v' (bs' ++ [(m : Int) % 128 + 128])) := ⟨OwnB.of (m := [(m : Int) % 128 + 128]) hown' rfl rfl rfl, append_below (below_alloc _ _) (Nat.le_trans hlo hsz) (World.ownsRow.alloc HO.out _) hgrow, Grown.of_append (below_alloc _ _) hgrow hat (by omega)⟩
      clear hown' hgrow hat
      go_wp2
      refine ⟨⟨m / 128, _, by omega, by simp, HS, hI.out.trans HR.out⟩, ?_⟩
      simp [intOf]
      omega

theorem appendAnyKind_any (v : Value) (bs : List Int) (z : Int) (lo : Nat) (w : World) (h : OwnB w lo v bs) (hlo : lo ≤ w.heap.size) (hz : -281474976710656 < z ∧ z < 281474976710656) (hlen : bs.length + 7 ≤ 100000000) :
    Calls Tryz.prog 95 #[v, .int .i64 z] w fun e w' => ∃ v', e = .returned v' ∧ Appd lo w w' v v' (bs ++ zigs z) := by
  by_cases hn : z < 0
  · have hw1 : IntKind.i64.wrap (-2 * z) = -2 * z := IntWalk.i64_in _ (by omega)
    have hw2 : IntKind.i64.wrap (-2 * z - 1) = -2 * z - 1 := IntWalk.i64_in _ (by omega)
    have HF : Hid (∀ W, W = w → Calls Tryz.prog 58 #[v, .int .i64 (-2 * z - 1)] W fun e w' => ∃ v', e = .returned v' ∧ Appd lo w w' v v' (bs ++ zigs z)) := fun W e => by
      subst e
      have := appendNumber_any v bs (-2 * z - 1).toNat lo W h hlo (by omega) (by have := sevens_len7 (n := (-2 * z - 1).toNat) (by omega); omega)
      rw [show (((-2 * z - 1).toNat : Nat) : Int) = -2 * z - 1 by omega] at this
      rw [show zigs z = sevens (-2 * z - 1).toNat by simp [zigs, hn]]
      exact this
    clear h
    go_enter Tryz.func95, Tryz.ntmps95
    go_wp2_with fail
    refine (HF.out _ rfl).mono ?_
    rintro e w' ⟨v', rfl, ha⟩
    have HA : Hid (Appd lo w w' v v' (bs ++ zigs z)) := ha
    clear ha
    go_wp2_with fail
    go_ret
    exact ⟨v', rfl, HA.out⟩
  · have hw1 : IntKind.i64.wrap (2 * z) = 2 * z := IntWalk.i64_in _ (by omega)
    have HF : Hid (∀ W, W = w → Calls Tryz.prog 58 #[v, .int .i64 (2 * z)] W fun e w' => ∃ v', e = .returned v' ∧ Appd lo w w' v v' (bs ++ zigs z)) := fun W e => by
      subst e
      have := appendNumber_any v bs (2 * z).toNat lo W h hlo (by omega) (by have := sevens_len7 (n := (2 * z).toNat) (by omega); omega)
      rw [show (((2 * z).toNat : Nat) : Int) = 2 * z by omega] at this
      rw [show zigs z = sevens (2 * z).toNat by simp [zigs, hn]]
      exact this
    clear h
    go_enter Tryz.func95, Tryz.ntmps95
    go_wp2_with fail
    refine (HF.out _ rfl).mono ?_
    rintro e w' ⟨v', rfl, ha⟩
    have HA : Hid (Appd lo w w' v v' (bs ++ zigs z)) := ha
    clear ha
    go_wp2_with fail
    go_ret
    exact ⟨v', rfl, HA.out⟩

end Go.Proofs.YtecpblabaelopaaGreatDoor

/- Contracts of evlog.firstRun and evlog.appendRuns. -/

namespace Go.Proofs.YtecpblabaelopaaGreatDoor
open Go.RowKit
set_option maxRecDepth 100000

theorem runLen_is : ∀ (l : List Int) (k : Nat), 1 ≤ k → k ≤ l.length → (∀ j, j < k → l.getD j 0 = l.getD 0 0) → (k = l.length ∨ l.getD k 0 ≠ l.getD 0 0) → runLen l = k
  | [], k, h1, h2, _, _ => by simp at h2; omega
  | [x], k, h1, h2, _, _ => by simp at h2; simp [runLen]; omega
  | x :: y :: t, k, h1, h2, h3, h4 => by
    by_cases h : y = x
    · subst h
      have hk : 2 ≤ k := by
        by_cases e : k = 1
        · subst e
          rcases h4 with h4 | h4
          · simp at h4
          · simp at h4
        · omega
      obtain ⟨k', rfl⟩ : ∃ k', k = k' + 1 := ⟨k - 1, by omega⟩
      have := runLen_is (y :: t) k' (by omega) (by simp at h2 ⊢; omega) (fun j hj => by have := h3 (j + 1) (by omega); simpa using this) (by
        rcases h4 with h4 | h4
        · left; simp at h4 ⊢; omega
        · right; simpa using h4)
      simp [runLen, this]
    · have : k = 1 := by
        by_cases e : 2 ≤ k
        · have := h3 1 (by omega)
          simp at this
          exact absurd this h
        · omega
      subst this
      simp [runLen, h]

set_option maxHeartbeats 1000000 in
theorem firstRun_any (v : Value) (l : List Int) (w : World) (h : IntsAt w v l) (h0 : 0 < l.length) :
    Calls Tryz.prog 131 #[v] w fun e w' => e = .returned (.int .i64 (runLen l)) ∧ ∃ m, w' = w.drewN m := by
  obtain ⟨A, c, rfl, hl, hc⟩ := h
  obtain ⟨b, off, rfl, hbs, hcell⟩ := hc h0
  have c0 := hcell 0 h0
  simp only [Nat.add_zero] at c0
  have h0i : (0 : Int) < (l.length : Int) := by omega
  have HC : Hid (∀ j, j < l.length → w.cell? ⟨b, off + j, none⟩ = some (.int .i64 (l.getD j 0))) := hcell
  clear hc hcell
  go_enter Tryz.func131, Tryz.ntmps131
  go_wp2
  go_loopw [3] (fun i wr => ∃ (k m : Nat), 1 ≤ k ∧ k ≤ l.length ∧ i = .int .i64 k ∧ Hid (∀ j, j < k → l.getD j 0 = l.getD 0 0) ∧ wr = w.drewN m) (fun i _ => l.length - (intOf i).toNat)
  case atStart => exact ⟨1, 0, Nat.le_refl _, h0, rfl, fun j hj => by rw [show j = 0 by omega], rfl⟩
  case round =>
    obtain ⟨k, m, hk1, hk, rfl, hE, hw⟩ := hrel
    subst wr
    by_cases hlt : k < l.length
    · have ck := HC.out k hlt
      have hki : (k : Int) < (l.length : Int) := by omega
      by_cases he : l.getD k 0 = l.getD 0 0
      · have HE : Hid (∀ j, j < k + 1 → l.getD j 0 = l.getD 0 0) := fun j hj => by
          by_cases e : j = k
          · rw [e, he]
          · exact hE.out j (by omega)
        rw [he] at ck
        clear hE he HC
        revert c0 ck HE
        generalize l.getD 0 0 = x0
        intro c0 ck HE
        go_wp2_with fail
        go_quiet (fail)
        go_wp2_with fail
        refine ⟨⟨k + 1, _, by omega, by omega, by go_num, HE, rfl⟩, ?_⟩
        simp [intOf]; omega
      · have HR : Hid (runLen l = k) := runLen_is l k hk1 hk hE.out (Or.inr he)
        clear hE HC
        revert c0 ck he
        generalize l.getD 0 0 = x0
        generalize l.getD k 0 = xk
        intro c0 ck he
        go_wp2_with fail
        go_quiet (fail)
        go_wp2_with fail
        go_ret
        exact ⟨ret_int (by rw [HR.out]), drewN_two w m _⟩
    · have HR : Hid (runLen l = k) := runLen_is l k hk1 hk hE.out (Or.inl (by omega))
      have hki : ¬ (k : Int) < (l.length : Int) := by omega
      clear hE HC c0
      go_wp2_with fail
      go_quiet (fail)
      go_wp2_with fail
      go_ret
      exact ⟨ret_int (by rw [HR.out]), drewN_two w m _⟩

theorem IntsAt.rest {w : World} {b off c : Nat} {l : List Int} (h : IntsAt w (.slice (some ⟨b, off, none⟩) l.length c) l) (k : Nat) (hk : k ≤ l.length) (c' : Nat) : IntsAt w (.slice (some ⟨b, off + k, none⟩) (l.length - k) c') (l.drop k) := by
  obtain ⟨A, c1, e, hl, hc⟩ := h
  simp only [Value.slice.injEq] at e
  obtain ⟨rfl, -, rfl⟩ := e
  refine ⟨some ⟨b, off + k, none⟩, c', by simp, by simp; omega, fun h0 => ?_⟩
  simp at h0
  obtain ⟨b', off', e, hlt, hj⟩ := hc (by omega)
  simp only [Option.some.injEq, Addr.mk.injEq] at e
  obtain ⟨rfl, rfl, -⟩ := e
  refine ⟨b, off + k, rfl, hlt, fun j hjl => ?_⟩
  simp at hjl
  rw [Nat.add_assoc, hj (k + j) (by omega)]
  simp [List.getD]

theorem IntsAt.belowLo {w w' : World} {b off c lo n : Nat} {l : List Int} (h : IntsAt w (.slice (some ⟨b, off, none⟩) n c) l) (hb : b < lo) (hB : Below lo w w') : IntsAt w' (.slice (some ⟨b, off, none⟩) n c) l := by
  obtain ⟨A, c1, e, hl, hc⟩ := h
  refine ⟨A, c1, e, hl, fun h0 => ?_⟩
  obtain ⟨b', off', e', hlt, hj⟩ := hc h0
  simp only [Value.slice.injEq] at e
  have e2 := e.1.trans e'
  simp only [Option.some.injEq, Addr.mk.injEq] at e2
  obtain ⟨rfl, rfl, -⟩ := e2
  exact ⟨b, off, e', Nat.lt_of_lt_of_le hlt hB.size, fun j hjl => (hB.cell (p := ⟨b, off + j, none⟩) hb).trans (hj j hjl)⟩
theorem IntsAt.head {w : World} {b off c n : Nat} {x : Int} {t : List Int} (h : IntsAt w (.slice (some ⟨b, off, none⟩) n c) (x :: t)) : w.cell? ⟨b, off, none⟩ = some (.int .i64 x) := by
  obtain ⟨A, c1, e, hl, hc⟩ := h
  obtain ⟨b', off', e', hlt, hj⟩ := hc (by simp)
  simp only [Value.slice.injEq] at e
  have e2 := e.1.trans e'
  simp only [Option.some.injEq, Addr.mk.injEq] at e2
  obtain ⟨rfl, rfl, -⟩ := e2
  simpa using hj 0 (by simp)

set_option maxHeartbeats 2000000 in
theorem appendRuns_any (v wv : Value) (bs l : List Int) (lo : Nat) (w : World) (h : OwnB w lo v bs) (hlo : lo ≤ w.heap.size) (hv : ∃ b off c, wv = .slice (some ⟨b, off, none⟩) l.length c ∧ l.length ≤ c ∧ b < lo) (hi : IntsAt w wv l) (hl : l.length ≤ 1000) (hw : ∀ x ∈ l, -1099511627776 ≤ x ∧ x ≤ 1099511627776) (hlen : bs.length ≤ 10000000) :
    Calls Tryz.prog 94 #[v, wv] w fun e w' => ∃ v', e = .returned v' ∧ Appd lo w w' v v' (bs ++ runsB 0 0 l) := by
  obtain ⟨b, off, c, rfl, hcap, hblo⟩ := hv
  have HI : Hid (IntsAt w (.slice (some ⟨b, off, none⟩) l.length c) l) := hi
  have H0 : Hid (OwnB w lo v bs) := h
  have HW : Hid (∀ x ∈ l, -1099511627776 ≤ x ∧ x ≤ 1099511627776) := hw
  have HT : Hid ((runsB 0 0 l).length ≤ 14 * l.length) := runsB_len l 0 0 (by omega) (by simp) hw
  clear h hi hw
  go_enter Tryz.func94, Tryz.ntmps94
  go_wp2
  go_loopw [0, 1, 5] (fun o u t wr => ∃ (p : Nat) (last : Int) (bs' : List Int) (Au : Option Addr), p ≤ l.length ∧ u = .slice Au (l.length - p) (c - p) ∧ (p < l.length → Au = some ⟨b, off + p, none⟩) ∧ t = .int .i64 last ∧ Hid (bs ++ runsB 0 0 l = bs' ++ runsB last 0 (l.drop p) ∧ (-1099511627776 ≤ last ∧ last ≤ 1099511627776)) ∧ Hid (Appd lo w wr v o bs')) (fun _ u _ _ => match u with | .slice _ n _ => n | _ => 0)
  case atStart => exact ⟨0, 0, bs, _, Nat.zero_le _, rfl, fun _ => rfl, rfl, ⟨rfl, by simp⟩, ⟨H0.out, Below.refl _ _, Grown.refl _ _⟩⟩
  case round =>
    obtain ⟨p, last, bs', Au, hp, rfl, hAu, rfl, hE, hA⟩ := hrel
    have hsz := hA.out.old.size
    obtain ⟨A0, c0, rfl⟩ := hA.out.own.shape
    have hL : bs'.length + (runsB last 0 (l.drop p)).length ≤ 10000000 + 14000 := by
      have := congrArg List.length hE.out.1
      have := HT.out
      simp at *
      omega
    by_cases hlt : p < l.length
    · have hls : 0 < l.length - p := by omega
      obtain rfl := hAu hlt
      have HR : Hid (IntsAt w (.slice (some ⟨b, off + p, none⟩) (l.length - p) (c - p)) (l.drop p)) := HI.out.rest p hp _
      obtain ⟨x, t, hxt⟩ : ∃ x t, l.drop p = x :: t := by
        cases e : l.drop p with
        | nil => have := congrArg List.length e; simp at this; omega
        | cons x t => exact ⟨x, t, rfl⟩
      have hxl : (x :: t).length = l.length - p := by rw [← hxt]; simp
      have hx := HW.out x (List.mem_of_mem_drop (by rw [hxt]; simp))
      have hn1 := runLen_pos x t
      have hn2 := runLen_le (x :: t)
      rw [hxt] at hL HR
      have HE : Hid (bs ++ runsB 0 0 l = (bs' ++ sevens (runLen (x :: t)) ++ zigs (x - last)) ++ runsB x 0 (l.drop (p + runLen (x :: t)))) := by
        show _ = _
        rw [hE.out.1, hxt, runsB_run, ← hxt, List.drop_drop, hxt]
        simp [List.append_assoc]
      have hlast := hE.out.2
      have HS1 := sevens_len7 (n := runLen (x :: t)) (by omega)
      have HS2 := zigs_len7 (z := x - last) (by omega)
      have hbs' : bs'.length ≤ 10014000 := by omega
      have HF : Hid (∀ W, Below lo w W → Calls Tryz.prog 131 #[.slice (some ⟨b, off + p, none⟩) (l.length - p) (c - p)] W fun e w' => e = .returned (.int .i64 (runLen (x :: t))) ∧ ∃ m, w' = W.drewN m) := fun W hB => firstRun_any _ (x :: t) W (HR.out.belowLo hblo hB) (by simp)
      have HH : Hid (∀ W, Below lo w W → W.cell? ⟨b, off + p, none⟩ = some (.int .i64 x)) := fun W hB => (HR.out.belowLo hblo hB).head
      have HN : Hid (∀ W v1 l1, OwnB W lo v1 l1 → lo ≤ W.heap.size → l1.length ≤ 10014000 → Calls Tryz.prog 58 #[v1, .int .i64 (runLen (x :: t))] W fun e w' => ∃ v', e = .returned v' ∧ Appd lo W w' v1 v' (l1 ++ sevens (runLen (x :: t)))) := fun W v1 l1 ho hlo hl => appendNumber_any v1 l1 (runLen (x :: t)) lo W ho hlo (by omega) (by omega)
      have HK : Hid (∀ W v1 l1, OwnB W lo v1 l1 → lo ≤ W.heap.size → l1.length ≤ 10014007 → Calls Tryz.prog 95 #[v1, .int .i64 (x - last)] W fun e w' => ∃ v', e = .returned v' ∧ Appd lo W w' v1 v' (l1 ++ zigs (x - last))) := fun W v1 l1 ho hlo hl => appendAnyKind_any v1 l1 (x - last) lo W ho hlo (by omega) (by omega)
      have hwr : IntKind.i64.wrap (x - last) = x - last := IntWalk.i64_in _ (by omega)
      clear hE hL HR HT HI HW hxt
      simp only [hxl] at hn2
      revert HF HE HN HS1 hn1 hn2
      generalize runLen (x :: t) = n
      intro hn1 HE HS1 HF HN hn2
      have hni : (n : Int) ≤ ((l.length - p : Nat) : Int) := by omega
      have hA' := hA.out
      have HB0 : Hid (Below lo w wr) := hA.out.old
      go_wp2_with fail
      refine (HF.out _ HB0.out).mono ?_
      rintro e w' ⟨rfl, m, rfl⟩
      go_wp2_with fail
      refine (HN.out _ _ bs' (OwnB.below hA.out.own (below_drewN (Below.refl _ _) _)) (Nat.le_trans hlo hsz) hbs').mono ?_
      rintro e w1 ⟨v1, rfl, ha1⟩
      have HA1 : Hid (Appd lo w w1 v v1 (bs' ++ sevens n)) := hA.out.trans (ha1.pre (below_drewN (Below.refl _ _) _) (Nat.le_trans hlo hsz))
      clear ha1 HF HN hA'
      have hsz1 := HA1.out.old.size
      have k1 := HH.out _ HA1.out.old
      go_wp2_with fail
      refine (HK.out _ _ _ HA1.out.own (Nat.le_trans hlo hsz1) (by simp; omega)).mono ?_
      rintro e w2 ⟨v2, rfl, ha2⟩
      have HA2 : Hid (Appd lo w w2 v v2 (bs' ++ sevens n ++ zigs (x - last))) := HA1.out.trans ha2
      clear ha2 HK
      have k2 := HH.out _ HA2.out.old
      clear HH
      go_wp2_with fail
      refine ⟨⟨p + n, x, _, _, by omega, by rw [Nat.sub_sub, Nat.sub_sub], fun h => by rw [if_neg (by omega), Nat.add_assoc], rfl, ⟨HE.out, hx⟩, HA2.out⟩, ?_⟩
      show l.length - p - n < l.length - p
      omega
    · have HS : Hid (bs ++ runsB 0 0 l = bs') := by
        show _ = _
        rw [hE.out.1, List.drop_eq_nil_of_le (by omega)]
        simp [runsB]
      have e0 : l.length - p = 0 := by omega
      clear hE HI HT HW hL hAu
      go_wp2_with fail
      go_ret
      exact ⟨_, rfl, HS.out ▸ hA.out⟩

end Go.Proofs.YtecpblabaelopaaGreatDoor

/- Contracts of evlog.sum and hourglassref.SumOf. -/

namespace Go.Proofs.YtecpblabaelopaaGreatDoor
open Go.RowKit
set_option maxRecDepth 100000

def BytesAt (w : World) (v : Value) (l : List Int) : Prop :=
  ∃ (A : Option Addr) (c : Nat), v = .slice A l.length c ∧ l.length ≤ 140737488351232 ∧ (∀ x ∈ l, 0 ≤ x ∧ x ≤ 255) ∧
    (0 < l.length → ∃ b off, A = some ⟨b, off, none⟩ ∧ b < w.heap.size ∧ ∀ j, j < l.length → w.cell? ⟨b, off + j, none⟩ = some (.int .u8 (l.getD j 0)))
theorem BytesAt.below {w w' : World} {v : Value} {l : List Int} (h : BytesAt w v l) (hb : Below w.heap.size w w') : BytesAt w' v l := by
  obtain ⟨A, c, rfl, hl, hy, hc⟩ := h
  refine ⟨A, c, rfl, hl, hy, fun h0 => ?_⟩
  obtain ⟨b, off, rfl, hlt, hj⟩ := hc h0
  exact ⟨b, off, rfl, Nat.lt_of_lt_of_le hlt hb.size, fun j hjl => (hb.cell (p := ⟨b, off + j, none⟩) hlt).trans (hj j hjl)⟩
theorem OwnB.read {w : World} {lo : Nat} {v : Value} {l : List Int} (h : OwnB w lo v l) (hl : l.length ≤ 140737488351232) (hy : ∀ x ∈ l, 0 ≤ x ∧ x ≤ 255) : BytesAt w v l := by
  by_cases h0 : 0 < l.length
  · obtain ⟨g, cap, rfl, hlo, hlt, _, hc, _⟩ := ownsRow_at h h0
    refine ⟨_, cap, rfl, hl, hy, fun _ => ⟨g, 0, rfl, hlt, fun j hj => ?_⟩⟩
    rw [Nat.zero_add, hc j hj]
    simp [List.getD, hj]
  · obtain ⟨A, c, rfl⟩ := h.shape
    exact ⟨A, c, rfl, hl, hy, fun h => absurd h h0⟩
theorem OwnB.made4 {w : World} {a b c d : Int} : OwnB (w.alloc (.cells #[.int .u8 a, .int .u8 b, .int .u8 c, .int .u8 d] 5)) w.heap.size (.slice (some ⟨w.heap.size, 0, none⟩) 4 4) [a, b, c, d] :=
  ⟨by simp, Or.inr ⟨w.heap.size, 4, _, rfl, Nat.le_refl _, Go.Deep.blk_alloc_new _ _, by simp, by unfold maxLen; omega, by simp, by simp⟩⟩

set_option maxHeartbeats 1000000 in
theorem sum_any (v : Value) (l : List Int) (w : World) (h : BytesAt w v l) :
    Calls Tryz.prog 60 #[v] w fun e w' => ∃ g, e = .returned (.slice (some ⟨g, 0, none⟩) 4 4) ∧ OwnB w' w.heap.size (.slice (some ⟨g, 0, none⟩) 4 4) (sumB l) ∧ Below w.heap.size w w' := by
  obtain ⟨A, c, rfl, hl, hy, hc⟩ := h
  go_enter Tryz.func60, Tryz.ntmps60
  go_wp2
  go_loopw [3, 4, 9] (fun x y i wr => ∃ k : Nat, k ≤ l.length ∧ i = .int .i64 k ∧ x = .int .i64 (sumP (l.take k)).1 ∧ y = .int .i64 (sumP (l.take k)).2 ∧ wr = w) (fun _ _ i _ => l.length - (intOf i).toNat)
  case atStart => exact ⟨0, Nat.zero_le _, rfl, rfl, rfl, rfl⟩
  case round =>
    obtain ⟨k, hk, rfl, rfl, rfl, hw⟩ := hrel
    subst wr
    have hbd := sumP_bd (l.take k)
    by_cases hlt : k < l.length
    · obtain ⟨b, off, rfl, hbs, hcell⟩ := hc (by omega)
      have h1 := hcell k hlt
      have hx := hy (l.getD k 0) (by simp [List.getD, hlt])
      have HS : Hid (sumP (l.take (k + 1)) = sumStep (sumP (l.take k)) (l.getD k 0)) := by show _ = _; rw [take_snoc l k hlt, sumP_snoc]
      clear hcell hc hy
      revert h1 hx HS hbd
      generalize l.getD k 0 = xb
      generalize hs1 : (sumP (l.take k)).1 = s1
      generalize hs2 : (sumP (l.take k)).2 = s2
      intro hbd h1 hx HS
      have HT : Hid (sumP (l.take (k + 1)) = ((s1 + xb) % 65521, (s2 + (s1 + xb) % 65521) % 65521)) := by
        show _ = _
        rw [HS.out]
        simp only [sumStep, hs1, hs2]
      clear HS hs1 hs2
      have hw0 : IntKind.i64.wrap xb = xb := IntWalk.i64_in _ (by omega)
      have hw1 : IntKind.i64.wrap (s1 + xb) = s1 + xb := IntWalk.i64_in _ (by omega)
      have hm1 : Int.tmod (s1 + xb) 65521 = (s1 + xb) % 65521 := Int.tmod_eq_emod_of_nonneg (by omega)
      have hw2 : IntKind.i64.wrap (s2 + (s1 + xb) % 65521) = s2 + (s1 + xb) % 65521 := IntWalk.i64_in _ (by omega)
      have hm2 : Int.tmod (s2 + (s1 + xb) % 65521) 65521 = (s2 + (s1 + xb) % 65521) % 65521 := Int.tmod_eq_emod_of_nonneg (by omega)
      go_wp2
      refine ⟨⟨k + 1, by omega, by go_num, by rw [HT.out], by rw [HT.out]; simp, trivial⟩, ?_⟩
      simp [intOf]; omega
    · have hT : l.take k = l := List.take_of_length_le (by omega)
      rw [hT] at hbd ⊢
      have HB : Hid (sumB l = [(sumP l).2 / 256, (sumP l).2 % 256, (sumP l).1 / 256, (sumP l).1 % 256]) := rfl
      clear hc hT hy
      revert hbd HB
      generalize (sumP l).1 = s1
      generalize (sumP l).2 = s2
      intro hbd HB
      have hd1 : Int.tdiv s1 256 = s1 / 256 := Int.tdiv_eq_ediv_of_nonneg (by omega)
      have hd2 : Int.tdiv s2 256 = s2 / 256 := Int.tdiv_eq_ediv_of_nonneg (by omega)
      have hm1 : Int.tmod s1 256 = s1 % 256 := Int.tmod_eq_emod_of_nonneg (by omega)
      have hm2 : Int.tmod s2 256 = s2 % 256 := Int.tmod_eq_emod_of_nonneg (by omega)
      have hw1 : IntKind.u8.wrap (s1 / 256) = s1 / 256 := IntWalk.u8_in _ (by omega)
      have hw2 : IntKind.u8.wrap (s2 / 256) = s2 / 256 := IntWalk.u8_in _ (by omega)
      have hw3 : IntKind.u8.wrap (s1 % 256) = s1 % 256 := IntWalk.u8_in _ (by omega)
      have hw4 : IntKind.u8.wrap (s2 % 256) = s2 % 256 := IntWalk.u8_in _ (by omega)
      go_wp2
      go_ret
      exact ⟨_, rfl, HB.out ▸ OwnB.made4, below_alloc _ _⟩

end Go.Proofs.YtecpblabaelopaaGreatDoor
