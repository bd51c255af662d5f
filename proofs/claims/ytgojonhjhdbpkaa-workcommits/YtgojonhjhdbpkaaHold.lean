/- Who has which cell, as a list of holds: no program in sight. -/
import Derived.Test.YtgojonhjhdbpkaaBook3
namespace Go.Proofs.Ytgojonhjhdbpkaa.B
set_option maxRecDepth 100000

abbrev HE : Type := (Int × Int) × (Int × Int)
def lookH : List HE → Int × Int → Int × Int
  | [], _ => (0, 0)
  | h :: ho, p => if p = h.1 then h.2 else lookH ho p
def putH : List HE → Int × Int → Int × Int → List HE
  | [], p, x => [(p, x)]
  | h :: ho, p, x => if p = h.1 then (p, x) :: ho else h :: putH ho p x
def dropH : List HE → Int × Int → List HE
  | [], _ => []
  | h :: ho, p => if p = h.1 then ho else h :: dropH ho p
/-- One Write less stands. -/
def letGoH (ho : List HE) (p : Int × Int) : List HE := if 0 < (lookH ho p).2 - 1 then putH ho p ((lookH ho p).1, (lookH ho p).2 - 1) else dropH ho p
/-- One Write more stands. -/
def writeH (ho : List HE) (p : Int × Int) (t : Int) : List HE := putH ho p (t, (lookH ho p).2 + 1)
theorem eqP (p q : Int × Int) : (p.1 == q.1 && p.2 == q.2) = decide (p = q) := by
  obtain ⟨a, b⟩ := p
  obtain ⟨c, d⟩ := q
  by_cases h : a = c <;> by_cases k : b = d <;> simp [h, k]
theorem lookH_eq (ho : List HE) (p : Int × Int) : lookP (ho.map hoEnt) p (hoVal (0, 0)) = hoVal (lookH ho p) := by
  have : ∀ i, (match findI (fun q => p.1 == q.1 && p.2 == q.2) (ho.map hoEnt) i with | some (_, v) => v | none => hoVal (0, 0)) = hoVal (lookH ho p) := by
    induction ho with
    | nil => intro i; rfl
    | cons h ho ih =>
      intro i
      simp only [List.map_cons, findI, lookH, eqP]
      by_cases e : p = h.1
      · simp [e]
      · simp only [e, decide_false, Bool.false_eq_true, if_false]
        have := ih (i + 1)
        simp only [eqP] at this
        exact this
  exact this 0
theorem putH_eq (ho : List HE) (p x : Int × Int) : putI (fun q : Int × Int => p.1 == q.1 && p.2 == q.2) p (hoVal x) (ho.map hoEnt) = (putH ho p x).map hoEnt := by
  induction ho with
  | nil => rfl
  | cons h ho ih =>
    simp only [List.map_cons, putI, putH]
    rw [eqP]
    by_cases e : p = h.1
    · simp [e]
    · simp only [e, decide_false, Bool.false_eq_true, if_false, List.map_cons]
      rw [ih]
theorem dropH_eq (ho : List HE) (p : Int × Int) : dropI (fun q : Int × Int => p.1 == q.1 && p.2 == q.2) (ho.map hoEnt) = (dropH ho p).map hoEnt := by
  induction ho with
  | nil => rfl
  | cons h ho ih =>
    simp only [List.map_cons, dropI, dropH]
    rw [eqP]
    by_cases e : p = h.1
    · simp [e]
    · simp only [e, decide_false, Bool.false_eq_true, if_false, List.map_cons]
      rw [ih]
theorem look_mem (ho : List HE) (p : Int × Int) : (p, lookH ho p) ∈ ho ∨ ((∀ g ∈ ho, g.1 ≠ p) ∧ lookH ho p = (0, 0)) := by
  induction ho with
  | nil => exact Or.inr ⟨(fun g hg => by cases hg), rfl⟩
  | cons h ho ih =>
    by_cases e : p = h.1
    · left; subst e; simp [lookH]
    · have hl : lookH (h :: ho) p = lookH ho p := by simp [lookH, e]
      rw [hl]
      rcases ih with ih | ⟨ih, h0⟩
      · exact Or.inl (List.mem_cons_of_mem _ ih)
      · refine Or.inr ⟨fun g hg => ?_, h0⟩
        rcases List.mem_cons.1 hg with rfl | hg
        · exact fun k => e k.symm
        · exact ih g hg
abbrev Once (ho : List HE) : Prop := ho.Pairwise fun g h => g.1 ≠ h.1
theorem mem_putH {ho : List HE} (ho1 : Once ho) (p x : Int × Int) (q : HE) : q ∈ putH ho p x ↔ q = (p, x) ∨ (q ∈ ho ∧ q.1 ≠ p) := by
  induction ho with
  | nil => simp [putH]
  | cons h ho ih =>
    have hp := List.pairwise_cons.1 ho1
    simp only [putH]
    by_cases e : p = h.1
    · rw [if_pos e]
      constructor
      · intro hq
        rcases List.mem_cons.1 hq with hq | hq
        · exact Or.inl hq
        · exact Or.inr ⟨List.mem_cons_of_mem _ hq, fun k => hp.1 q hq (by rw [k, e])⟩
      · rintro (hq | ⟨hq, hn⟩)
        · rw [hq]; exact List.mem_cons_self
        · rcases List.mem_cons.1 hq with hq | hq
          · exact absurd (by rw [hq, e]) hn
          · exact List.mem_cons_of_mem _ hq
    · rw [if_neg e, List.mem_cons, ih hp.2]
      constructor
      · rintro (hq | hq | hq)
        · exact Or.inr ⟨by rw [hq]; exact List.mem_cons_self, by rw [hq]; exact fun k => e k.symm⟩
        · exact Or.inl hq
        · exact Or.inr ⟨List.mem_cons_of_mem _ hq.1, hq.2⟩
      · rintro (hq | ⟨hq, hn⟩)
        · exact Or.inr (Or.inl hq)
        · rcases List.mem_cons.1 hq with hq | hq
          · exact Or.inl hq
          · exact Or.inr (Or.inr ⟨hq, hn⟩)
theorem mem_dropH {ho : List HE} (ho1 : Once ho) (p : Int × Int) (q : HE) : q ∈ dropH ho p ↔ q ∈ ho ∧ q.1 ≠ p := by
  induction ho with
  | nil => simp [dropH]
  | cons h ho ih =>
    have hp := List.pairwise_cons.1 ho1
    simp only [dropH]
    by_cases e : p = h.1
    · rw [if_pos e]
      constructor
      · intro hq
        exact ⟨List.mem_cons_of_mem _ hq, fun k => hp.1 q hq (by rw [k, e])⟩
      · rintro ⟨hq, hn⟩
        rcases List.mem_cons.1 hq with hq | hq
        · exact absurd (by rw [hq, e]) hn
        · exact hq
    · rw [if_neg e, List.mem_cons, ih hp.2]
      constructor
      · rintro (hq | hq)
        · exact ⟨by rw [hq]; exact List.mem_cons_self, by rw [hq]; exact fun k => e k.symm⟩
        · exact ⟨List.mem_cons_of_mem _ hq.1, hq.2⟩
      · rintro ⟨hq, hn⟩
        rcases List.mem_cons.1 hq with hq | hq
        · exact Or.inl hq
        · exact Or.inr ⟨hq, hn⟩
theorem once_putH {ho : List HE} (ho1 : Once ho) (p x : Int × Int) : Once (putH ho p x) := by
  induction ho with
  | nil => simp [putH]
  | cons h ho ih =>
    have hp := List.pairwise_cons.1 ho1
    simp only [putH]
    by_cases e : p = h.1
    · rw [if_pos e]
      exact List.pairwise_cons.2 ⟨fun g hg => by rw [e]; exact hp.1 g hg, hp.2⟩
    · rw [if_neg e]
      refine List.pairwise_cons.2 ⟨fun g hg => ?_, ih hp.2⟩
      rcases (mem_putH hp.2 p x g).1 hg with hg | hg
      · rw [hg]; exact fun k => e k.symm
      · exact hp.1 g hg.1
theorem once_dropH {ho : List HE} (ho1 : Once ho) (p : Int × Int) : Once (dropH ho p) := by
  induction ho with
  | nil => simp [dropH]
  | cons h ho ih =>
    have hp := List.pairwise_cons.1 ho1
    simp only [dropH]
    by_cases e : p = h.1
    · rw [if_pos e]; exact hp.2
    · rw [if_neg e]
      exact List.pairwise_cons.2 ⟨fun g hg => hp.1 g ((mem_dropH hp.2 p g).1 hg).1, ih hp.2⟩
/-- The list tells, of each cell and Txn, how many Writes stand. -/
structure Holds (ho : List HE) (c : Int × Int → Int → Nat) : Prop where
  is : ∀ h ∈ ho, h.2.2 = (c h.1 h.2.1 : Nat) ∧ 0 < h.2.2
  all : ∀ p t, 0 < c p t → ∃ n, (p, (t, n)) ∈ ho
  once : Once ho
theorem once_eq {ho : List HE} (h : Once ho) {p x y : Int × Int} (hx : (p, x) ∈ ho) (hy : (p, y) ∈ ho) : x = y := by
  by_cases e : ((p, x) : HE) = (p, y)
  · exact congrArg Prod.snd e
  · exact absurd rfl (pairwise_mem (fun a b hab => Ne.symm hab) h (p, x) hx (p, y) hy e)
theorem Holds.look {ho : List HE} {c : Int × Int → Int → Nat} (h : Holds ho c) {p : Int × Int} {t : Int} (hc : 0 < c p t) : lookH ho p = (t, ((c p t : Nat) : Int)) ∧ (p, (t, ((c p t : Nat) : Int))) ∈ ho := by
  obtain ⟨n, hn⟩ := h.all p t hc
  have hi := (h.is _ hn).1
  dsimp only at hi
  rw [hi] at hn
  rcases look_mem ho p with hm | ⟨hm, _⟩
  · exact ⟨once_eq h.once hm hn, hn⟩
  · exact absurd rfl (hm _ hn)
theorem Holds.look0 {ho : List HE} {c : Int × Int → Int → Nat} (h : Holds ho c) {p : Int × Int} (hc : ∀ t, c p t = 0) : lookH ho p = (0, 0) ∧ ∀ g ∈ ho, g.1 ≠ p := by
  rcases look_mem ho p with hm | ⟨hm, h0⟩
  · have := h.is _ hm
    dsimp only at this
    rw [hc] at this
    omega
  · exact ⟨h0, hm⟩
theorem Holds.only {ho : List HE} {c : Int × Int → Int → Nat} (h : Holds ho c) {p : Int × Int} {t u : Int} (ht : 0 < c p t) (hu : 0 < c p u) : t = u := by
  have a := (h.look ht).1
  rw [(h.look hu).1] at a
  exact (congrArg Prod.fst a).symm
theorem Holds.write {ho : List HE} {c c' : Int × Int → Int → Nat} (h : Holds ho c) {p : Int × Int} {t : Int} (hu : ∀ u, u ≠ t → c p u = 0) (h1 : c' p t = c p t + 1) (h2 : ∀ q u, ¬ (q = p ∧ u = t) → c' q u = c q u) : Holds (writeH ho p t) c' := by
  have hl : (lookH ho p).2 = (c p t : Nat) := by
    by_cases hc : 0 < c p t
    · rw [(h.look hc).1]
    · rw [(h.look0 (fun u => by
        by_cases e : u = t
        · rw [e]; omega
        · exact hu u e)).1]; simp; omega
  refine ⟨fun g hg => ?_, fun q u hq => ?_, once_putH h.once _ _⟩
  · rcases (mem_putH h.once _ _ g).1 hg with rfl | ⟨hg, hn⟩
    · dsimp only; rw [h1, hl]; omega
    · rw [h2 _ _ (fun k => hn k.1)]; exact h.is g hg
  · by_cases e : q = p ∧ u = t
    · obtain ⟨rfl, rfl⟩ := e
      exact ⟨_, (mem_putH h.once _ _ _).2 (Or.inl rfl)⟩
    · rw [h2 q u e] at hq
      obtain ⟨n, hn⟩ := h.all q u hq
      refine ⟨n, (mem_putH h.once _ _ _).2 (Or.inr ⟨hn, fun k => ?_⟩)⟩
      dsimp only at k
      have : u ≠ t := fun k2 => e ⟨k, k2⟩
      rw [k, hu u this] at hq
      omega
theorem Holds.letGo {ho : List HE} {c c' : Int × Int → Int → Nat} (h : Holds ho c) {p : Int × Int} {t : Int} (hc : 0 < c p t) (h1 : c' p t = c p t - 1) (h2 : ∀ q u, ¬ (q = p ∧ u = t) → c' q u = c q u) : Holds (letGoH ho p) c' := by
  have hl := (h.look hc).1
  have hothers : ∀ u, u ≠ t → c p u = 0 := fun u hu => by
    by_cases e : 0 < c p u
    · exact absurd (h.only e hc) hu
    · omega
  unfold letGoH
  rw [hl]
  dsimp only
  split
  · rename_i h0
    refine ⟨fun g hg => ?_, fun q u hq => ?_, once_putH h.once _ _⟩
    · rcases (mem_putH h.once _ _ g).1 hg with rfl | ⟨hg, hn⟩
      · dsimp only; rw [h1]; omega
      · rw [h2 _ _ (fun k => hn k.1)]; exact h.is g hg
    · by_cases e : q = p ∧ u = t
      · obtain ⟨rfl, rfl⟩ := e
        exact ⟨_, (mem_putH h.once _ _ _).2 (Or.inl rfl)⟩
      · rw [h2 q u e] at hq
        obtain ⟨n, hn⟩ := h.all q u hq
        refine ⟨n, (mem_putH h.once _ _ _).2 (Or.inr ⟨hn, fun k => ?_⟩)⟩
        dsimp only at k
        have : u ≠ t := fun k2 => e ⟨k, k2⟩
        rw [k, hothers u this] at hq
        omega
  · rename_i h0
    refine ⟨fun g hg => ?_, fun q u hq => ?_, once_dropH h.once _⟩
    · obtain ⟨hg, hn⟩ := (mem_dropH h.once _ g).1 hg
      rw [h2 _ _ (fun k => hn k.1)]; exact h.is g hg
    · by_cases e : q = p ∧ u = t
      · obtain ⟨rfl, rfl⟩ := e
        rw [h1] at hq; omega
      · rw [h2 q u e] at hq
        obtain ⟨n, hn⟩ := h.all q u hq
        refine ⟨n, (mem_dropH h.once _ _).2 ⟨hn, fun k => ?_⟩⟩
        dsimp only at k
        have : u ≠ t := fun k2 => e ⟨k, k2⟩
        rw [k, hothers u this] at hq
        omega
end Go.Proofs.Ytgojonhjhdbpkaa.B
