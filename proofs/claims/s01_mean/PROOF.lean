import PyProof.Rows.All
import KE.OsGo
import KE.OsArgs
import PySem.Challenge.RW_smallrows_s01_mean
set_option Elab.async false
set_option maxRecDepth 100000
namespace My
open Sf26Neutral
theorem asked_one {c : Call} (h : asked [c] = true) : asked1 c = true := by
  simp only [asked, List.all_cons, List.all_nil, Bool.and_true, Bool.and_eq_true] at h
  exact h.1.2
structure MeanAsked (n b : Int) (x y : List Int) : Prop where
  ok : 0 ≤ n → n ≤ 1048576 → (b = 1 ∨ b = 2) → (x.length : Int) = n ∧ (y.length : Int) = n
  px : ∀ v ∈ x, 0 ≤ v
  py : ∀ v ∈ y, 0 ≤ v
theorem mean_asked {n b : Int} {x y : List Int} (h : PySf26.mean_asked n b x y = true) : MeanAsked n b x y := by
  have h1 := asked_one h
  simp only [asked1, Bool.and_eq_true, beq_iff_eq, List.all_eq_true, natural, decide_eq_true_eq, sized, within, Bool.or_eq_true] at h1
  obtain ⟨⟨⟨⟨_, _⟩, hx⟩, hy⟩, ⟨⟨⟨l1, _⟩, l2⟩, _⟩⟩ := h1
  refine ⟨fun a b c => ?_, fun v m => (hx v m).1, fun v m => (hy v m).1⟩
  rw [if_pos ⟨⟨a, b⟩, c⟩] at l1 l2
  exact ⟨l1, l2⟩
theorem size_iff {n : Int} : Sf26.size n = true ↔ 0 ≤ n ∧ n ≤ 1048576 := by
  unfold Sf26.size Sf26.MOST
  rw [Bool.and_eq_true, decide_eq_true_eq, decide_eq_true_eq]
  exact Iff.rfl
/-- what is due where it's done, and where it isn't -/
theorem mean_no {n b : Int} {x y : List Int} (h : ¬ (0 ≤ n ∧ n ≤ 1048576 ∧ (b = 1 ∨ b = 2))) : PySf26.mean n b x y = [-1] := by
  have e : PySf26.mean n b x y = listOf (Sf26.spec (.mean n b (natsOf x) (natsOf y))) := rfl
  rw [e]
  unfold Sf26.spec
  rw [if_neg]
  · rfl
  · intro r
    apply h
    simp only [Sf26.Call.right, size_iff, Sf26.isOne, Bool.and_eq_true] at r
    refine ⟨r.1.1, r.1.2, ?_⟩
    have := r.2
    simpa using this
theorem mean_yes {n b : Int} {x y : List Int} (h : 0 ≤ n ∧ n ≤ 1048576 ∧ (b = 1 ∨ b = 2)) : PySf26.mean n b x y = 0 :: (((natsOf x).zip (natsOf y)).map fun p => Sf26.mean p.1 p.2).map (fun (k : Nat) => (k : Int)) := by
  have e : PySf26.mean n b x y = listOf (Sf26.spec (.mean n b (natsOf x) (natsOf y))) := rfl
  rw [e]
  unfold Sf26.spec
  rw [if_pos]
  · rfl
  · simp only [Sf26.Call.right, size_iff, Sf26.isOne, Bool.and_eq_true]
    refine ⟨⟨h.1, h.2.1⟩, ?_⟩
    simpa using h.2.2
/-- by places: what the loop has told after k turns -/
theorem map_range_getD {β : Type} (l : List Int) (g : Int → β) (d : Int) : l.map g = (List.range l.length).map fun i => g (l.getD i d) := by
  apply List.ext_getElem
  · simp
  · intro i h1 h2
    simp only [List.length_map] at h1
    simp [List.getD, h1]
theorem zip_range {β : Type} (x y : List Int) (g : Nat → Nat → β) (m : Nat) (hx : x.length = m) (hy : y.length = m) :
    ((natsOf x).zip (natsOf y)).map (fun p => g p.1 p.2) = (List.range m).map fun i => g (x.getD i 0).toNat (y.getD i 0).toNat := by
  apply List.ext_getElem
  · simp [natsOf, hx, hy]
  · intro i h1 h2
    have hi : i < m := by simpa using h2
    have hxi : i < x.length := by omega
    have hyi : i < y.length := by omega
    simp [natsOf, List.getD, hxi, hyi]
theorem getD_of {P : Int → Prop} {l : List Int} (h : ∀ v ∈ l, P v) (i : Nat) (hi : i < l.length) : P (l.getD i 0) := by
  have e : l.getD i 0 = l[i] := by simp [List.getD, hi]
  rw [e]
  exact h _ (List.getElem_mem hi)
/-- what stands behind the 0 after k turns, by places -/
structure Told (F : Nat → Int) (k : Nat) (a : List Int) : Prop where
  eq : a = 0 :: (List.range k).map F
theorem told_start {F : Nat → Int} : [(0 : Int)].length = ([] : List Int).length + 1 ∧ Told F ([] : List Int).length [0] := ⟨rfl, ⟨rfl⟩⟩
theorem told_turn {F : Nat → Int} {a pre : List Int} {k v : Int} (h : Told F pre.length a) (hl : a.length = pre.length + 1) (hv : v = F pre.length) :
    (a ++ [v]).length = (pre ++ [k]).length + 1 ∧ Told F (pre ++ [k]).length (a ++ [v]) := by
  have l : (pre ++ [k]).length = pre.length + 1 := by simp
  rw [l]
  refine ⟨by simp [hl], ⟨?_⟩⟩
  rw [List.range_succ, List.map_append, h.eq, hv]
  rfl
def meanF (x y : List Int) (i : Nat) : Int := ((Sf26.mean (x.getD i 0).toNat (y.getD i 0).toNat : Nat) : Int)
theorem mean_val {n b k : Int} {x y : List Int} {m : Nat} (q : MeanAsked n b x y) (hk : k = 0 + (m : Int)) (hx : m < x.length) (hy : m < y.length) :
    (x.getD k.toNat 0 + y.getD k.toNat 0 + 1).fdiv 2 = meanF x y m := by
  have e : k.toNat = m := by omega
  rw [e]
  have p1 := getD_of q.px m hx
  have p2 := getD_of q.py m hy
  unfold meanF Sf26.mean
  rw [Int.fdiv_eq_ediv_of_nonneg _ (by decide)]
  omega
theorem mean_end {n b : Int} {x y a : List Int} (q : MeanAsked n b x y) (h0 : 0 ≤ n) (h1 : n ≤ 1048576) (h2 : b = 1 ∨ b = 2) {m : Nat} (hm : (m : Int) = n) (s : Told (meanF x y) m a) : a = PySf26.mean n b x y := by
  obtain ⟨lx, ly⟩ := q.ok h0 h1 h2
  rw [s.eq, mean_yes ⟨h0, h1, h2⟩, zip_range x y Sf26.mean m (by omega) (by omega), List.map_map]
  rfl
end My
open PySem PySem.W
namespace My
theorem said : PySem.Challenge.rw_smallrows_s01_mean.wellSaid = true := by decide +kernel
abbrev Req (n b : Int) (x y : List Int) : Prop := PySem.Challenge.rw_smallrows_s01_mean.pre [WData.int n, WData.int b, ofPy (PyData.list (x.map PyData.int)), ofPy (PyData.list (y.map PyData.int))] = true
theorem opened {n b : Int} {x y : List Int} (h : Req n b x y) : MeanAsked n b x y := by
  obtain ⟨⟨n', b', x', y', u⟩, w, q, e⟩ := os_pre said h
  have e1 := os_j_int (List.cons.inj e).1
  have e2 := os_j_int (List.cons.inj (List.cons.inj e).2).1
  have e3 := os_j_ints (List.cons.inj (List.cons.inj (List.cons.inj e).2).2).1
  have e4 := os_j_ints (List.cons.inj (List.cons.inj (List.cons.inj (List.cons.inj e).2).2).2).1
  subst e1 e2 e3 e4
  exact mean_asked q
theorem shut {n b : Int} {x y a : List Int} (h : Req n b x y) (ea : a = PySf26.mean n b x y) :
    PySem.Challenge.rw_smallrows_s01_mean.post [WData.int n, WData.int b, ofPy (PyData.list (x.map PyData.int)), ofPy (PyData.list (y.map PyData.int))] (ofPy (PyData.list (a.map PyData.int))) = true := by
  obtain ⟨⟨n', b', x', y', u⟩, w, q, e⟩ := os_pre said h
  have e1 := os_j_int (List.cons.inj e).1
  have e2 := os_j_int (List.cons.inj (List.cons.inj e).2).1
  have e3 := os_j_ints (List.cons.inj (List.cons.inj (List.cons.inj e).2).2).1
  have e4 := os_j_ints (List.cons.inj (List.cons.inj (List.cons.inj (List.cons.inj e).2).2).2).1
  subst e1 e2 e3 e4
  rw [e]
  refine os_shut said w ?_
  subst ea
  exact os_list rfl
abbrev argX {n b : Int} {x y : List Int} (_ : Req n b x y) : List Int := x
abbrev argY {n b : Int} {x y : List Int} (_ : Req n b x y) : List Int := y
inductive Cases (n b : Int) (x y : List Int) : Prop where
  | low (h : n < 0)
  | high (h : 1048576 < n)
  | other (h0 : 0 ≤ n) (h1 : n ≤ 1048576) (h2 : b ≠ 1) (h3 : b ≠ 2)
  | one (h0 : 0 ≤ n) (h1 : n ≤ 1048576) (h2 : b = 1) (hx : (x.length : Int) = n) (hy : (y.length : Int) = n)
  | two (h0 : 0 ≤ n) (h1 : n ≤ 1048576) (h2 : b = 2) (hx : (x.length : Int) = n) (hy : (y.length : Int) = n)
theorem cases {n b : Int} {x y : List Int} (h : Req n b x y) : Cases n b x y := by
  have q := opened h
  by_cases h0 : 0 ≤ n
  · by_cases h1 : n ≤ 1048576
    · by_cases h2 : b = 1
      · exact .one h0 h1 h2 (q.ok h0 h1 (.inl h2)).1 (q.ok h0 h1 (.inl h2)).2
      · by_cases h3 : b = 2
        · exact .two h0 h1 h3 (q.ok h0 h1 (.inr h3)).1 (q.ok h0 h1 (.inr h3)).2
        · exact .other h0 h1 h2 h3
    · exact .high (by omega)
  · exact .low (by omega)
end My
open PyProof.Rows in
local macro_rules | `(tactic| walk_at "call builtin:list.append") => `(tactic| (k_here; (with_reducible show wpAny _ _ (call (Value.builtin _) [Value.ref _, _]) _ _ _); k_dflt (refine' append_K ?k1 ?k2 ?k3 ?_ ?z; (case k1 => k_asm); (case k2 => k_asm); (case k3 => k_upd); (case z => (simp only [List.size_toArray, PySem.sizeLine_eq]; omega)); k_whole); intro h' F' N'; (try k_sweep)))
local macro_rules | `(tactic| walk_at "call type:range") => `(tactic| (k_here; k_dflt (exfalso; omega)))
set_option maxRecDepth 100000 in
set_option maxHeartbeats 4000000 in
theorem PySem.Challenge.cw_smallrows_s01_mean_holds : PySem.Challenge.rw_smallrows_s01_mean.Holds := by
  k_with "state" => first
    | exact My.told_start
    | exact My.told_turn (by assumption) (by assumption) (My.mean_val (My.opened hc0) (by assumption) (by omega) (by omega))
  k_with "pyIter ref" => k_state (fun pre answer => answer.length = pre.length + 1 ∧ My.Told (My.meanF (My.argX hc0) (My.argY hc0)) pre.length answer) "answer"
  w_on; k_headS
  case hw => exact ⟨[.int 0, .int 1, .list [], .list []], by decide +kernel, by decide +kernel⟩
  w_strict (
    k_goS0
    rename PySem.Challenge.rw_smallrows_s01_mean.pre _ = true => hc0
    cases My.cases hc0 with
    | low h => ((all_goals try k_fold); k_steps; (all_goals (try (w_end; sp_is; wrow_close))); all_goals (sp_left; exact My.shut (a := [-1]) hpre (My.mean_no (by omega)).symm))
    | high h => ((all_goals try k_fold); k_steps; (all_goals (try (w_end; sp_is; wrow_close))); all_goals (sp_left; exact My.shut (a := [-1]) hpre (My.mean_no (by omega)).symm))
    | other h0 h1 h2 h3 => ((all_goals try k_fold); k_steps; (all_goals (try (w_end; sp_is; wrow_close))); all_goals (sp_left; exact My.shut (a := [-1]) hpre (My.mean_no (by omega)).symm))
    | one h0 h1 h2 hx hy => (subst h2; (all_goals try k_fold); k_steps; (all_goals (try (w_end; sp_is; wrow_close))); all_goals (sp_left; refine My.shut hpre (My.mean_end (My.opened hpre) h0 h1 (by omega) ?_ (by assumption)); simp only [rangeKs_length]; omega))
    | two h0 h1 h2 hx hy => (subst h2; (all_goals try k_fold); k_steps; (all_goals (try (w_end; sp_is; wrow_close))); all_goals (sp_left; refine My.shut hpre (My.mean_end (My.opened hpre) h0 h1 (by omega) ?_ (by assumption)); simp only [rangeKs_length]; omega)))
#print axioms PySem.Challenge.cw_smallrows_s01_mean_holds
