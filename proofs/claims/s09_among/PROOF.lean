import PyProof.Rows.All
import KE.OsGo
import KE.OsArgs
import PySem.Challenge.RW_smallrows_s09_among
set_option Elab.async false
set_option maxRecDepth 100000
namespace My
open Sf26Neutral
theorem asked_one {c : Call} (h : asked [c] = true) : asked1 c = true := by
  simp only [asked, List.all_cons, List.all_nil, Bool.and_true, Bool.and_eq_true] at h
  exact h.1.2
theorem size_iff {n : Int} : Sf26.size n = true ↔ 0 ≤ n ∧ n ≤ 1048576 := by
  unfold Sf26.size Sf26.MOST
  rw [Bool.and_eq_true, decide_eq_true_eq, decide_eq_true_eq]
  exact Iff.rfl
theorem from_iff {z a b : Int} : Sf26.from_ z a b = true ↔ a ≤ z ∧ z ≤ b := by
  unfold Sf26.from_
  rw [Bool.and_eq_true, decide_eq_true_eq, decide_eq_true_eq]
theorem getD_of {P : Int → Prop} {l : List Int} (h : ∀ v ∈ l, P v) (i : Nat) (hi : i < l.length) : P (l.getD i 0) := by
  have e : l.getD i 0 = l[i] := by simp [List.getD, hi]
  rw [e]
  exact h _ (List.getElem_mem hi)
theorem getD_all {P : Int → Prop} {l : List Int} (h : ∀ v ∈ l, P v) (h0 : P 0) (i : Nat) : P (l.getD i 0) := by
  by_cases hi : i < l.length
  · exact getD_of h i hi
  · have e : l.getD i 0 = 0 := by simp [List.getD, hi]
    rw [e]; exact h0
theorem zip_range {β : Type} (x y : List Int) (g : Nat → Nat → β) (m : Nat) (hx : x.length = m) (hy : y.length = m) :
    ((natsOf x).zip (natsOf y)).map (fun p => g p.1 p.2) = (List.range m).map fun i => g (x.getD i 0).toNat (y.getD i 0).toNat := by
  apply List.ext_getElem
  · simp [natsOf, hx, hy]
  · intro i h1 h2
    have hi : i < m := by simpa using h2
    have hxi : i < x.length := by omega
    have hyi : i < y.length := by omega
    simp [natsOf, List.getD, hxi, hyi]
theorem nats_range {β : Type} (x : List Int) (g : Nat → β) (m : Nat) (hx : x.length = m) :
    (natsOf x).map g = (List.range m).map fun i => g (x.getD i 0).toNat := by
  apply List.ext_getElem
  · simp [natsOf, hx]
  · intro i h1 h2
    have hi : i < m := by simpa using h2
    have hxi : i < x.length := by omega
    simp [natsOf, List.getD, hxi]
structure AmongAsked (t s : List Int) : Prop where
  lt : t.length = 16
  ls : s.length = 16
  pt : ∀ v ∈ t, 0 ≤ v
  ps : ∀ v ∈ s, 0 ≤ v
theorem among_asked {t s : List Int} (h : PySf26.among_asked t s = true) : AmongAsked t s := by
  have h1 := asked_one h
  simp only [asked1, Bool.and_eq_true, List.all_eq_true, natural, decide_eq_true_eq, long] at h1
  obtain ⟨⟨a, b⟩, c, d⟩ := h1
  have b' : (t.length : Int) = 16 := by simpa using b
  have d' : (s.length : Int) = 16 := by simpa using d
  exact ⟨by omega, by omega, fun v m => (a v m).1, fun v m => (c v m).1⟩
theorem among_yes {t s : List Int} : PySf26.among t s = 0 :: (Sf26.among (natsOf t) (natsOf s)).map (fun (k : Nat) => (k : Int)) := rfl
def textI (l : List Int) : List Int := l.takeWhile fun c => c != 0
def amongI (t s : List Int) (j : Nat) : Int := if j < (textI t).length then (if (textI s).contains (t.getD j 0) = true then 255 else 0) else 0
theorem text_nats : ∀ (l : List Int), (∀ v ∈ l, 0 ≤ v) → Sf26.text (natsOf l) = natsOf (textI l)
  | [], _ => rfl
  | a :: l, h => by
    have ha := h a (List.mem_cons_self)
    have ih := text_nats l (fun v m => h v (List.mem_cons_of_mem _ m))
    unfold Sf26.text natsOf textI at *
    rw [List.map_cons, List.takeWhile_cons, List.takeWhile_cons]
    by_cases c : a = 0
    · subst c; rfl
    · have e1 : (a.toNat != 0) = true := by
        simp only [bne_iff_ne, ne_eq]; omega
      have e2 : (a != 0) = true := by simp only [bne_iff_ne, ne_eq]; exact c
      rw [e1, e2]
      simp only [if_true, List.map_cons]
      rw [ih]
theorem nats_contains : ∀ (l : List Int) (c : Int), (∀ v ∈ l, 0 ≤ v) → 0 ≤ c → (natsOf l).contains c.toNat = l.contains c
  | [], _, _, _ => rfl
  | a :: l, c, h, hc => by
    have ha := h a (List.mem_cons_self)
    have ih := nats_contains l c (fun v m => h v (List.mem_cons_of_mem _ m)) hc
    unfold natsOf at *
    rw [List.map_cons, List.contains_cons, List.contains_cons, ih]
    congr 1
    by_cases e : c = a
    · subst e; simp
    · have e1 : (c.toNat == a.toNat) = false := by simp only [beq_eq_false_iff_ne, ne_eq]; omega
      have e2 : (c == a) = false := by simp only [beq_eq_false_iff_ne, ne_eq]; exact e
      rw [e1, e2]
theorem text_at (l : List Int) (j : Nat) (h : j < (textI l).length) : (textI l)[j]? = some (l.getD j 0) := by
  have p : textI l <+: l := List.takeWhile_prefix _
  obtain ⟨r, e⟩ := p
  have : l.getD j 0 = (textI l)[j] := by
    conv => lhs; rw [← e]
    simp [List.getD, List.getElem?_append_left h, List.getElem?_eq_getElem h]
  rw [this, List.getElem?_eq_getElem h]
theorem among_at {t s : List Int} (q : AmongAsked t s) : PySf26.among t s = 0 :: (List.range 16).map (amongI t s) := by
  rw [among_yes]
  unfold Sf26.among
  rw [List.map_map]
  congr 1
  apply List.map_congr_left
  intro j _
  rw [Function.comp_apply, text_nats t q.pt, text_nats s q.ps]
  unfold amongI
  have sub : ∀ v ∈ textI s, 0 ≤ v := fun v m => q.ps v ((List.takeWhile_sublist _).subset m)
  by_cases c : j < (textI t).length
  · have e : (natsOf (textI t))[j]? = some (t.getD j 0).toNat := by
      unfold natsOf
      rw [List.getElem?_map, text_at t j c]
      rfl
    rw [e, if_pos c]
    have hc : 0 ≤ t.getD j 0 := getD_all (P := fun v => 0 ≤ v) q.pt (Int.le_refl 0) j
    simp only [nats_contains _ _ sub hc]
    split <;> rfl
  · have e : (natsOf (textI t))[j]? = none := by
      unfold natsOf
      rw [List.getElem?_map, List.getElem?_eq_none (by omega)]
      rfl
    rw [e, if_neg c]
    rfl
/-- what stands behind the 0 after k turns, by places -/
structure Told (F : Nat → Int) (k : Nat) (a : List Int) : Prop where
  eq : a = 0 :: (List.range k).map F
theorem told_start {F : Nat → Int} : [(0 : Int)].length = ([] : List Int).length + 1 ∧ Told F ([] : List Int).length [0] := ⟨rfl, ⟨rfl⟩⟩
theorem told_turn {F : Nat → Int} {a pre : List Int} {k v : Int} (h : Told F pre.length a) (hl : a.length = pre.length + 1) (hv : v = F pre.length) :
    (a ++ [v]).length = (pre ++ [k]).length + 1 ∧ Told F (pre ++ [k]).length (a ++ [v]) := by
  have l : (pre ++ [k]).length = pre.length + 1 := by simp
  rw [l]
  refine ⟨by simp [hl], ⟨?_⟩⟩
  rw [List.range_succ, List.map_append, h.eq, hv]
  rfl
structure Cut (pre told : List Int) : Prop where
  eq : told = pre
  nz : ∀ v ∈ pre, v ≠ 0
theorem cut_start : ([] : List Int).length = ([] : List Int).length ∧ Cut [] [] := ⟨rfl, ⟨rfl, fun _ h => nomatch h⟩⟩
theorem cut_turn {pre told : List Int} {k : Int} (h : Cut pre told) (hl : told.length = pre.length) (hk : k ≠ 0) : (told ++ [k]).length = (pre ++ [k]).length ∧ Cut (pre ++ [k]) (told ++ [k]) := by
  refine ⟨by simp [hl], ⟨by rw [h.eq], fun v hv => ?_⟩⟩
  rcases List.mem_append.mp hv with hv | hv
  · exact h.nz v hv
  · rw [List.mem_singleton.mp hv]
    exact hk
theorem take_cut : ∀ {pre : List Int}, (∀ v ∈ pre, v ≠ 0) → ∀ (r : List Int), textI (pre ++ r) = pre ++ textI r
  | [], _, _ => rfl
  | a :: l, h, r => by
    have ha : (a != 0) = true := by simpa using h a (List.mem_cons_self)
    have ih := take_cut (pre := l) (fun v m => h v (List.mem_cons_of_mem _ m)) r
    unfold textI at *
    rw [List.cons_append, List.takeWhile_cons, ha, if_pos rfl, ih]
    rfl
theorem cut_early {t pre post told : List Int} {v : Int} (e : t = pre ++ v :: post) (hv : v = 0) (h : Cut pre told) : told = textI t := by
  rw [e, take_cut h.nz, hv, h.eq]
  unfold textI
  simp
theorem cut_full {t told : List Int} (h : Cut t told) : told = textI t := by
  have := take_cut h.nz []
  rw [List.append_nil] at this
  rw [this, h.eq]
  unfold textI
  simp
theorem any_contains (l : List Int) (c : Int) : (l.any fun x => x == c) = l.contains c := by
  induction l with
  | nil => rfl
  | cons a l ih =>
    rw [List.any_cons, List.contains_cons, ih]
    congr 1
    by_cases e : a = c
    · subst e; rfl
    · have e1 : (a == c) = false := by simpa using e
      have e2 : (c == a) = false := by simpa using fun h => e h.symm
      rw [e1, e2]
theorem text_getD (t : List Int) (j : Nat) (h : j < (textI t).length) : (textI t).getD j 0 = t.getD j 0 := by
  have := text_at t j h
  simp only [List.getD, this]
  simp [List.getD]
theorem step_yes {t s a pre told wanted : List Int} {k : Int} (h : Told (amongI t s) pre.length a) (hl : a.length = pre.length + 1) (hk : k = 0 + (pre.length : Int)) (ct : told = textI t) (cs : wanted = textI s)
    (h1 : k < (told.length : Int)) (h2 : (wanted.any fun x => x == told.getD k.toNat 0) = true) :
    (a ++ [255]).length = (pre ++ [k]).length + 1 ∧ Told (amongI t s) (pre ++ [k]).length (a ++ [255]) := by
  refine told_turn h hl ?_
  have e : k.toNat = pre.length := by omega
  have h3 : pre.length < (textI t).length := by rw [← ct]; omega
  rw [any_contains, ct, cs, e, text_getD t _ h3] at h2
  unfold amongI
  rw [if_pos h3, if_pos h2]
theorem step_out {t s a pre told : List Int} {k : Int} (h : Told (amongI t s) pre.length a) (hl : a.length = pre.length + 1) (hk : k = 0 + (pre.length : Int)) (ct : told = textI t)
    (h1 : ¬ k < (told.length : Int)) :
    (a ++ [0]).length = (pre ++ [k]).length + 1 ∧ Told (amongI t s) (pre ++ [k]).length (a ++ [0]) := by
  refine told_turn h hl ?_
  have h3 : ¬ pre.length < (textI t).length := by rw [← ct]; omega
  unfold amongI
  rw [if_neg h3]
theorem step_no {t s a pre told wanted : List Int} {k : Int} (h : Told (amongI t s) pre.length a) (hl : a.length = pre.length + 1) (hk : k = 0 + (pre.length : Int)) (ct : told = textI t) (cs : wanted = textI s)
    (h1 : k < (told.length : Int)) (h2 : (wanted.any fun x => x == told.getD k.toNat 0) = false) :
    (a ++ [0]).length = (pre ++ [k]).length + 1 ∧ Told (amongI t s) (pre ++ [k]).length (a ++ [0]) := by
  refine told_turn h hl ?_
  have e : k.toNat = pre.length := by omega
  have h3 : pre.length < (textI t).length := by rw [← ct]; omega
  rw [any_contains, ct, cs, e, text_getD t _ h3] at h2
  unfold amongI
  rw [if_pos h3, if_neg (by rw [h2]; decide)]
theorem among_end {t s a : List Int} (q : AmongAsked t s) {m : Nat} (hm : m = 16) (h : Told (amongI t s) m a) : a = PySf26.among t s := by
  rw [among_at q, h.eq, hm]
end My
open PySem PySem.W
namespace My
theorem said : PySem.Challenge.rw_smallrows_s09_among.wellSaid = true := by decide +kernel
abbrev Req (t : List Int) (s : List Int) : Prop := PySem.Challenge.rw_smallrows_s09_among.pre [ofPy (PyData.list (t.map PyData.int)), ofPy (PyData.list (s.map PyData.int))] = true
theorem opened {t : List Int} {s : List Int} (h : Req t s) : AmongAsked t s := by
  obtain ⟨⟨t', s', u⟩, w, q, e⟩ := os_pre said h
  have e1 := os_j_ints (List.cons.inj e).1
  have e2 := os_j_ints (List.cons.inj (List.cons.inj e).2).1
  subst e1 e2
  exact among_asked q
theorem shut {t : List Int} {s : List Int} {a : List Int} (h : Req t s) (ea : a = PySf26.among t s) :
    PySem.Challenge.rw_smallrows_s09_among.post [ofPy (PyData.list (t.map PyData.int)), ofPy (PyData.list (s.map PyData.int))] (ofPy (PyData.list (a.map PyData.int))) = true := by
  obtain ⟨⟨t', s', u⟩, w, q, e⟩ := os_pre said h
  have e1 := os_j_ints (List.cons.inj e).1
  have e2 := os_j_ints (List.cons.inj (List.cons.inj e).2).1
  subst e1 e2
  rw [e]
  refine os_shut said w ?_
  subst ea
  exact os_list rfl
abbrev argF {t s : List Int} (_ : Req t s) : Nat → Int := amongI t s
inductive Cases (t s : List Int) : Prop where
  | ok (ht : t.length = 16) (hs : s.length = 16)
theorem cases {t s : List Int} (h : Req t s) : Cases t s := .ok (opened h).lt (opened h).ls
end My
open PyProof.Rows in
local macro_rules | `(tactic| walk_at "call builtin:list.append") => `(tactic| (k_here; (with_reducible show wpAny _ _ (call (Value.builtin _) [Value.ref _, _]) _ _ _); k_dflt (refine' append_K ?k1 ?k2 ?k3 ?_ ?z; (case k1 => k_asm); (case k2 => k_asm); (case k3 => k_upd); (case z => (simp only [List.size_toArray, PySem.sizeLine_eq]; omega)); k_whole); intro h' F' N'; (try k_sweep)))
local macro_rules | `(tactic| walk_at "call type:range") => `(tactic| (k_here; k_dflt (exfalso; omega)))
set_option maxRecDepth 100000 in
set_option maxHeartbeats 8000000 in
theorem PySem.Challenge.cw_smallrows_s09_among_holds : PySem.Challenge.rw_smallrows_s09_among.Holds := by
  k_with "state" => first
    | exact My.told_start
    | exact My.cut_start
    | exact My.cut_turn (by with_reducible assumption) (by with_reducible assumption) (by omega)
    | exact My.step_yes (by with_reducible assumption) (by with_reducible assumption) (by with_reducible assumption) (by first | exact My.cut_early (by with_reducible assumption) (by omega) (by with_reducible assumption) | exact My.cut_full (by with_reducible assumption)) (by first | exact My.cut_early (by with_reducible assumption) (by omega) (by with_reducible assumption) | exact My.cut_full (by with_reducible assumption)) (by omega) (by with_reducible assumption)
    | exact My.step_out (by with_reducible assumption) (by with_reducible assumption) (by with_reducible assumption) (by first | exact My.cut_early (by with_reducible assumption) (by omega) (by with_reducible assumption) | exact My.cut_full (by with_reducible assumption)) (by omega)
    | exact My.step_no (by with_reducible assumption) (by with_reducible assumption) (by with_reducible assumption) (by first | exact My.cut_early (by with_reducible assumption) (by omega) (by with_reducible assumption) | exact My.cut_full (by with_reducible assumption)) (by first | exact My.cut_early (by with_reducible assumption) (by omega) (by with_reducible assumption) | exact My.cut_full (by with_reducible assumption)) (by omega) (by with_reducible assumption)
  k_with "pyIter ref" => (k_of "byte" => k_state (fun pre told => told.length = pre.length ∧ My.Cut pre told) "told")
  k_with "pyIter ref" => (k_of "j" => k_state (fun pre answer => answer.length = pre.length + 1 ∧ My.Told (My.argF hc0) pre.length answer) "answer")
  w_on; k_headS
  case hw => exact ⟨[.list [.int 0, .int 0, .int 0, .int 0, .int 0, .int 0, .int 0, .int 0, .int 0, .int 0, .int 0, .int 0, .int 0, .int 0, .int 0, .int 0], .list [.int 0, .int 0, .int 0, .int 0, .int 0, .int 0, .int 0, .int 0, .int 0, .int 0, .int 0, .int 0, .int 0, .int 0, .int 0, .int 0]], by decide +kernel, by decide +kernel⟩
  w_strict (
    k_goS0
    rename PySem.Challenge.rw_smallrows_s09_among.pre _ = true => hc0
    cases My.cases hc0 with
    | ok ht hs => ((all_goals try k_fold); k_steps; (all_goals (try (w_end; sp_is; wrow_close))); all_goals (sp_left; refine My.shut hpre (My.among_end (My.opened hpre) ?_ (by with_reducible assumption)); simp only [rangeKs_length]; omega)))
#print axioms PySem.Challenge.cw_smallrows_s09_among_holds
