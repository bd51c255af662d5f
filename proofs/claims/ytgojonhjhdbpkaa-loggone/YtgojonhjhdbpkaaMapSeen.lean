/- A map from pairs of numbers to true: a set of pairs. -/
import Derived.Test.YtgojonhjhdbpkaaMapLaw
import Derived.Test.YtgojonhjhdbpkaaEq
namespace Go.Proofs.Ytgojonhjhdbpkaa.B
set_option maxRecDepth 100000
open Go.ChangeShapes Go.WideShapes Go.ChangeAt Go.RowKit

theorem eq_pair (w : World) (k q : Int × Int) : (Op.equal 41 (keyP k) (keyP q)).run Try.prog w = .ok (k.1 == q.1 && k.2 == q.2) w := by
  unfold Op.equal Op.maxDepth
  rw [show (10000 : Nat) = 9999 + 1 from rfl, run_equalIn_array (P := Try.prog) w 9999 _ _ Try.underlying41 (i := (Try.prog.info? 3).getD default) (by kernel_rfl)]
  simp [Op.eqItems, List.range_succ, go_sem, cellsInt, part, Try.underlying3]
  by_cases h0 : k.1 = q.1
  · by_cases h1 : k.2 = q.2 <;> simp [h0, h1]
  · simp [h0]
theorem findAsking_pair (k : Int × Int) (w : World) : ∀ (es : List MapEntry) (al : List ((Int × Int) × Value)) (i : Nat), es.map (fun e => (e.key, e.val)) = al.map (fun p => (keyP p.1, p.2)) →
    (Instr.findAsking 41 (keyP k) es i).run Try.prog w = .ok (findI (fun q => k.1 == q.1 && k.2 == q.2) al i) w := by
  have heq := eq_pair w k
  intro es
  induction es with
  | nil => intro al i h; cases al with
    | nil => simp [Instr.findAsking, findI, go_sem]
    | cons p al => simp at h
  | cons e es ih =>
    intro al i h
    cases al with
    | nil => simp at h
    | cons p al =>
      simp only [List.map_cons, List.cons.injEq, Prod.mk.injEq] at h
      obtain ⟨⟨hk, hv⟩, ht⟩ := h
      simp only [Instr.findAsking, Sem.run_bind, hk, heq, Result.andThen_ok, findI]
      rcases bool_or (k.1 == p.1.1 && k.2 == p.1.2) with hb | hb
      · simp only [hb, if_true, hv, Sem.run_pure]
      · simp only [hb, Bool.false_eq_true, if_false]; exact ih al (i + 1) ht
theorem findNow_pair (k : Int × Int) (n : Nat) (t : TypeId) (es : List MapEntry) (al : List ((Int × Int) × Value)) (i : Nat) (h : es.map (fun e => (e.key, e.val)) = al.map (fun p => (keyP p.1, p.2))) :
    Instr.findNow (.array n t) (keyP k) es i = some (findI (fun q => k.1 == q.1 && k.2 == q.2) al i) ∨ Instr.findNow (.array n t) (keyP k) es i = none := by
  cases es with
  | nil => cases al with
    | nil => exact Or.inl rfl
    | cons p al => simp at h
  | cons e es => exact Or.inr rfl
theorem findKey_pair (k : Int × Int) (w : World) (es : Array MapEntry) (al : List ((Int × Int) × Value)) (h : Ents keyP es al) :
    (Instr.findKey 41 (keyP k) es.toList).run Try.prog w = .ok (findI (fun q => k.1 == q.1 && k.2 == q.2) al 0) w := by
  simp only [Instr.findKey, Sem.run_bind, run_underlying Try.underlying41, Result.andThen_ok]
  rcases findNow_pair k _ _ es.toList al 0 h with e | e <;> rw [e]
  · simp [go_sem]
  · exact findAsking_pair k w es.toList al 0 h
theorem checkKey_pair (b : Bool) (n : Nat) (k : Int × Int) (w : World) : (Instr.checkKey b (n + 2) 41 (keyP k)).run Try.prog w = .ok () w := by
  have h1 := fun (w : World) => checkKey_int b n k.1 w
  have h2 := fun (w : World) => checkKey_int b n k.2 w
  rw [Instr.checkKey]
  simp [run_underlying Try.underlying41, go_sem, part, h1, h2, List.range']
theorem run_lookSeen {w : World} {r : Nat} {ks : List (Int × Int)} (h : MapAt keyP w r (ks.map fun k => (k, .bool true))) (k : (Int × Int)) :
    (Instr.lookup 40 (.map (some r)) (keyP k) false).run Try.prog w = .ok (.bool (decide (k ∈ ks))) w := by
  obtain ⟨es, c, h, he⟩ := h
  have hck : (Instr.checkKey es.isEmpty 10000 41 (keyP k)).run Try.prog w = .ok () w := checkKey_pair es.isEmpty 9998 k w
  have hfk := findKey_pair k w es _ he
  have hz : ∀ w, (zeroValue 4).run Try.prog w = .ok (.bool false) w := by intro w; simp [go_sem]
  have ho : (getObj r).run Try.prog w = .ok (.map es c) w := by simp [getObj, Sem.run, h]
  have hm : ∀ (ks : List (Int × Int)) i, (k ∈ ks ∧ ∃ n, findI (fun q : Int × Int => k.1 == q.1 && k.2 == q.2) (ks.map fun k => (k, .bool true)) i = some (n, .bool true)) ∨ (k ∉ ks ∧ findI (fun q : Int × Int => k.1 == q.1 && k.2 == q.2) (ks.map fun k => (k, .bool true)) i = none) := by
    intro ks
    induction ks with
    | nil => intro i; right; simp [findI]
    | cons q ks ih =>
      intro i
      simp only [List.map_cons, findI]
      by_cases e : k = q
      · left; subst e; simp
      · have hb : (k.1 == q.1 && k.2 == q.2) = false := by
          cases hh : (k.1 == q.1 && k.2 == q.2)
          · rfl
          · simp only [Bool.and_eq_true, beq_iff_eq] at hh
            exact absurd (Prod.ext hh.1 hh.2) e
        rw [hb]
        rcases ih (i + 1) with ⟨h1, n, h2⟩ | ⟨h1, h2⟩
        · left; exact ⟨List.mem_cons_of_mem _ h1, n, by simpa using h2⟩
        · right; exact ⟨by simp [e, h1], by simpa using h2⟩
  simp only [Instr.lookup, Sem.run_bind, run_underlying Try.underlying40, Result.andThen_ok, ho, Sem.run_pure, hck, hfk]
  rcases hm ks 0 with ⟨h1, n, h2⟩ | ⟨h1, h2⟩
  · rw [h2]; simp only [Sem.run_bind, Result.andThen_ok, Sem.run_pure, Bool.false_eq_true, if_false]; simp [h1]
  · rw [h2]; simp only [Sem.run_bind, hz, Result.andThen_ok, Sem.run_pure, Bool.false_eq_true, if_false]; simp [h1]
theorem run_putSeen {w : World} {r : Nat} {ks : List (Int × Int)} (h : MapAt keyP w r (ks.map fun k => (k, .bool true))) (k : (Int × Int)) (hk : k ∉ ks) :
    ∃ w', (Instr.mapUpdate 40 (.map (some r)) (keyP k) (.bool true)).run Try.prog w = .ok () w' ∧ MapAt keyP w' r ((ks ++ [k]).map fun k => (k, .bool true)) ∧ Only r w w' := by
  obtain ⟨es, c, h, he⟩ := h
  have hck : (Instr.checkKey false 10000 41 (keyP k)).run Try.prog w = .ok () w := checkKey_pair false 9998 k w
  have hfk := findKey_pair k w es _ he
  have ho := run_getMap h
  have hm : ∀ (ks : List (Int × Int)) i, k ∉ ks → findI (fun q : Int × Int => k.1 == q.1 && k.2 == q.2) (ks.map fun k => (k, .bool true)) i = none := by
    intro ks
    induction ks with
    | nil => intro i _; rfl
    | cons q ks ih =>
      intro i hn
      simp only [List.mem_cons, not_or] at hn
      simp only [List.map_cons, findI]
      have hb : (k.1 == q.1 && k.2 == q.2) = false := by
        cases hh : (k.1 == q.1 && k.2 == q.2)
        · rfl
        · simp only [Bool.and_eq_true, beq_iff_eq] at hh
          exact absurd (Prod.ext hh.1 hh.2) hn.1
      rw [hb]
      simpa using ih (i + 1) hn.2
  simp only [Instr.mapUpdate, Sem.run_bind, run_underlying Try.underlying40, Result.andThen_ok, ho, hck, hfk]
  rw [hm ks 0 hk]
  refine ⟨_, run_setMap h, ⟨_, _, heap_set h, ?_⟩, only_set w r _⟩
  rw [List.map_append]
  exact ents_push he k _ c
end Go.Proofs.Ytgojonhjhdbpkaa.B
