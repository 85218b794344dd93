import PyProof.Rows.All
import KE.OsGo
import KE.OsArgs
import PySem.Challenge.RW_smallrows_s06_order
set_option Elab.async false
set_option maxRecDepth 100000
namespace My
open Sf26Neutral
theorem asked_one {c : Call} (h : asked [c] = true) : asked1 c = true := by
  simp only [asked, List.all_cons, List.all_nil, Bool.and_true, Bool.and_eq_true] at h
  exact h.1.2
theorem size_iff {n : Int} : Sf26.size n = true ↔ 0 ≤ n ∧ n ≤ 1048576 := by
  unfold Sf26.size Sf26.MOST
  rw [Bool.and_eq_true, decide_eq_true_eq, decide_eq_true_eq]
  exact Iff.rfl
theorem from_iff {z a b : Int} : Sf26.from_ z a b = true ↔ a ≤ z ∧ z ≤ b := by
  unfold Sf26.from_
  rw [Bool.and_eq_true, decide_eq_true_eq, decide_eq_true_eq]
theorem getD_of {P : Int → Prop} {l : List Int} (h : ∀ v ∈ l, P v) (i : Nat) (hi : i < l.length) : P (l.getD i 0) := by
  have e : l.getD i 0 = l[i] := by simp [List.getD, hi]
  rw [e]
  exact h _ (List.getElem_mem hi)
theorem getD_all {P : Int → Prop} {l : List Int} (h : ∀ v ∈ l, P v) (h0 : P 0) (i : Nat) : P (l.getD i 0) := by
  by_cases hi : i < l.length
  · exact getD_of h i hi
  · have e : l.getD i 0 = 0 := by simp [List.getD, hi]
    rw [e]; exact h0
theorem zip_range {β : Type} (x y : List Int) (g : Nat → Nat → β) (m : Nat) (hx : x.length = m) (hy : y.length = m) :
    ((natsOf x).zip (natsOf y)).map (fun p => g p.1 p.2) = (List.range m).map fun i => g (x.getD i 0).toNat (y.getD i 0).toNat := by
  apply List.ext_getElem
  · simp [natsOf, hx, hy]
  · intro i h1 h2
    have hi : i < m := by simpa using h2
    have hxi : i < x.length := by omega
    have hyi : i < y.length := by omega
    simp [natsOf, List.getD, hxi, hyi]
theorem nats_range {β : Type} (x : List Int) (g : Nat → β) (m : Nat) (hx : x.length = m) :
    (natsOf x).map g = (List.range m).map fun i => g (x.getD i 0).toNat := by
  apply List.ext_getElem
  · simp [natsOf, hx]
  · intro i h1 h2
    have hi : i < m := by simpa using h2
    have hxi : i < x.length := by omega
    simp [natsOf, List.getD, hxi]
structure OrderAsked (n lo hi : Int) (x : List Int) : Prop where
  ok : 0 ≤ n → n ≤ 1048576 → 0 ≤ lo → lo ≤ 255 → 0 ≤ hi → hi ≤ 255 → (x.length : Int) = 8 * n
  px : ∀ v ∈ x, 0 ≤ v ∧ v ≤ 65535
theorem order_asked {n lo hi : Int} {x : List Int} (h : PySf26.order_asked n lo hi x = true) : OrderAsked n lo hi x := by
  have h1 := asked_one h
  simp only [asked1, Bool.and_eq_true, beq_iff_eq, List.all_eq_true, natural, decide_eq_true_eq, u16, within] at h1
  obtain ⟨_, ⟨l1, hx⟩⟩ := h1
  refine ⟨fun a b c d e f => ?_, hx⟩
  rw [if_pos ⟨⟨a, b⟩, ⟨c, d⟩, e, f⟩] at l1
  exact l1
theorem order_no {n lo hi : Int} {x : List Int} (h : ¬ (0 ≤ n ∧ n ≤ 1048576 ∧ (0 ≤ lo ∧ lo ≤ 255) ∧ 0 ≤ hi ∧ hi ≤ 255)) : PySf26.order n lo hi x = [-1] := by
  have e : PySf26.order n lo hi x = listOf (Sf26.spec (.order n lo hi (natsOf x))) := rfl
  rw [e]
  unfold Sf26.spec
  rw [if_neg]
  · rfl
  · intro r
    apply h
    simp only [Sf26.Call.right, size_iff, from_iff, Bool.and_eq_true] at r
    exact ⟨r.1.1, r.1.2, r.2⟩
theorem order_yes {n lo hi : Int} {x : List Int} (h : 0 ≤ n ∧ n ≤ 1048576 ∧ (0 ≤ lo ∧ lo ≤ 255) ∧ 0 ≤ hi ∧ hi ≤ 255) : PySf26.order n lo hi x = 0 :: ((Sf26.groups 8 (natsOf x)).flatMap (Sf26.order lo.toNat hi.toNat)).map (fun (k : Nat) => (k : Int)) := by
  have e : PySf26.order n lo hi x = listOf (Sf26.spec (.order n lo hi (natsOf x))) := rfl
  rw [e]
  unfold Sf26.spec
  rw [if_pos]
  · rfl
  · simp only [Sf26.Call.right, size_iff, from_iff, Bool.and_eq_true]
    exact ⟨⟨h.1, h.2.1⟩, h.2.2⟩
/-- groups by their places -/
theorem groups_len (k n : Nat) (hk : 0 < k) (l : List Nat) (h : l.length = k * n) : Sf26.groups k l = (List.range n).map fun i => (l.drop (k * i)).take k := by
  unfold Sf26.groups
  rw [h, Nat.mul_div_cancel_left n hk]
theorem natsOf_len (x : List Int) : (natsOf x).length = x.length := by simp [natsOf]
theorem group_at (x : List Int) (k g j : Nat) (hj : j < k) : (((natsOf x).drop (k * g)).take k).getD j 0 = (x.getD (k * g + j) 0).toNat := by
  simp only [List.getD, natsOf]
  rw [List.getElem?_take_of_lt hj, List.getElem?_drop, List.getElem?_map]
  cases x[k * g + j]? <;> rfl
theorem groups_flat {β : Type} (k n : Nat) (hk : 0 < k) (x : List Int) (h : x.length = k * n) (G : List Nat → List β) :
    (Sf26.groups k (natsOf x)).flatMap G = (List.range n).flatMap fun g => G (((natsOf x).drop (k * g)).take k) := by
  rw [groups_len k n hk _ (by rw [natsOf_len, h]), List.flatMap_map]
theorem groups_flat2 {β : Type} (k n : Nat) (hk : 0 < k) (x y : List Int) (hx : x.length = k * n) (hy : y.length = k * n) (G : List Nat → List Nat → List β) :
    ((Sf26.groups k (natsOf x)).zip (Sf26.groups k (natsOf y))).flatMap (fun p => G p.1 p.2) = (List.range n).flatMap fun g => G (((natsOf x).drop (k * g)).take k) (((natsOf y).drop (k * g)).take k) := by
  rw [groups_len k n hk _ (by rw [natsOf_len, hx]), groups_len k n hk _ (by rw [natsOf_len, hy]), List.zip_map', List.flatMap_map]
/-- what stands behind the 0 after k groups -/
structure ToldG (F : Nat → List Int) (k : Nat) (a : List Int) : Prop where
  eq : a = 0 :: (List.range k).flatMap F
theorem toldG_start {F : Nat → List Int} : ToldG F 0 [0] := ⟨rfl⟩
theorem toldG_turn {F : Nat → List Int} {a l : List Int} {k : Nat} (h : ToldG F k a) (hl : l = F k) : ToldG F (k + 1) (a ++ l) := by
  refine ⟨?_⟩
  rw [List.range_succ, List.flatMap_append, h.eq, hl]
  simp
theorem cast_flat (n : Nat) (G : Nat → List Nat) (F : Nat → List Int) (h : ∀ g, g < n → (G g).map (fun (k : Nat) => (k : Int)) = F g) :
    ((List.range n).flatMap G).map (fun (k : Nat) => (k : Int)) = (List.range n).flatMap F := by
  induction n with
  | zero => rfl
  | succ m ih =>
    rw [List.range_succ, List.flatMap_append, List.flatMap_append, List.map_append, ih (fun g hg => h g (by omega))]
    simp [h m (by omega)]
theorem nn_all {P : Int → Prop} {l : List Int} (h : ∀ v ∈ l, 0 ≤ v ∧ P v) (i : Nat) : 0 ≤ l.getD i 0 := getD_all (P := fun v => 0 ≤ v) (fun v m => (h v m).1) (Int.le_refl 0) i
def orderG (lo hi : Int) (x : List Int) (g : Nat) : List Int := ((List.range 4).map fun (j : Nat) => x.getD (8 * g + lo.toNat / 4 ^ j % 4) 0) ++ (List.range 4).map fun (j : Nat) => x.getD (8 * g + (4 + hi.toNat / 4 ^ j % 4)) 0
theorem order_end {n lo hi : Int} {x a : List Int} (q : OrderAsked n lo hi x) (h0 : 0 ≤ n) (h1 : n ≤ 1048576) (h2 : 0 ≤ lo ∧ lo ≤ 255) (h3 : 0 ≤ hi ∧ hi ≤ 255) {m : Nat} (hm : (m : Int) = n) (t : ToldG (orderG lo hi x) m a) : a = PySf26.order n lo hi x := by
  have lx := q.ok h0 h1 h2.1 h2.2 h3.1 h3.2
  rw [t.eq, order_yes ⟨h0, h1, h2, h3⟩, groups_flat 8 m (by decide) x (by omega)]
  congr 1
  symm
  apply cast_flat
  intro g _
  unfold Sf26.order orderG
  rw [List.map_append, List.map_map, List.map_map]
  have hx := nn_all q.px
  congr 1
  · apply List.map_congr_left
    intro j _
    show (((((natsOf x).drop (8 * g)).take 8).getD (lo.toNat / 4 ^ j % 4) 0 : Nat) : Int) = _
    rw [group_at x 8 g _ (by omega)]
    have := hx (8 * g + lo.toNat / 4 ^ j % 4)
    omega
  · apply List.map_congr_left
    intro j _
    show (((((natsOf x).drop (8 * g)).take 8).getD (4 + hi.toNat / 4 ^ j % 4) 0 : Nat) : Int) = _
    rw [group_at x 8 g _ (by omega)]
    have := hx (8 * g + (4 + hi.toNat / 4 ^ j % 4))
    omega
theorem order_start {F : Nat → List Int} : [(0 : Int)].length = 8 * ([] : List Int).length + 1 ∧ ToldG F ([] : List Int).length [0] := ⟨rfl, toldG_start⟩
theorem order_turn {lo hi : Int} {x a pre : List Int} {k : Int} (h : ToldG (orderG lo hi x) pre.length a) (hl : a.length = 8 * pre.length + 1) (hk : k = 0 + (pre.length : Int)) (h2 : 0 ≤ lo) (h4 : 0 ≤ hi) :
    (a ++ [x.getD (8 * k + lo.fmod 4).toNat 0] ++ [x.getD (8 * k + (lo.fdiv 4).fmod 4).toNat 0] ++ [x.getD (8 * k + (lo.fdiv 16).fmod 4).toNat 0] ++ [x.getD (8 * k + (lo.fdiv 64).fmod 4).toNat 0]
      ++ [x.getD (8 * k + 4 + hi.fmod 4).toNat 0] ++ [x.getD (8 * k + 4 + (hi.fdiv 4).fmod 4).toNat 0] ++ [x.getD (8 * k + 4 + (hi.fdiv 16).fmod 4).toNat 0] ++ [x.getD (8 * k + 4 + (hi.fdiv 64).fmod 4).toNat 0]).length = 8 * (pre ++ [k]).length + 1 ∧
    ToldG (orderG lo hi x) (pre ++ [k]).length (a ++ [x.getD (8 * k + lo.fmod 4).toNat 0] ++ [x.getD (8 * k + (lo.fdiv 4).fmod 4).toNat 0] ++ [x.getD (8 * k + (lo.fdiv 16).fmod 4).toNat 0] ++ [x.getD (8 * k + (lo.fdiv 64).fmod 4).toNat 0]
      ++ [x.getD (8 * k + 4 + hi.fmod 4).toNat 0] ++ [x.getD (8 * k + 4 + (hi.fdiv 4).fmod 4).toNat 0] ++ [x.getD (8 * k + 4 + (hi.fdiv 16).fmod 4).toNat 0] ++ [x.getD (8 * k + 4 + (hi.fdiv 64).fmod 4).toNat 0]) := by
  have l : (pre ++ [k]).length = pre.length + 1 := by simp
  rw [l]
  refine ⟨by simp only [List.length_append, List.length_cons, List.length_nil, hl]; omega, ?_⟩
  simp only [List.append_assoc, List.cons_append, List.nil_append]
  refine toldG_turn h ?_
  have e : List.range 4 = [0, 1, 2, 3] := rfl
  unfold orderG
  rw [e]
  have p0 : (4 : Nat) ^ 0 = 1 := rfl
  have p1 : (4 : Nat) ^ 1 = 4 := rfl
  have p2 : (4 : Nat) ^ 2 = 16 := rfl
  have p3 : (4 : Nat) ^ 3 = 64 := rfl
  simp only [List.map_cons, List.map_nil, List.cons_append, List.nil_append, p0, p1, p2, p3]
  rw [Int.fmod_eq_emod_of_nonneg lo (by decide), Int.fmod_eq_emod_of_nonneg (lo.fdiv 4) (by decide), Int.fmod_eq_emod_of_nonneg (lo.fdiv 16) (by decide), Int.fmod_eq_emod_of_nonneg (lo.fdiv 64) (by decide),
    Int.fmod_eq_emod_of_nonneg hi (by decide), Int.fmod_eq_emod_of_nonneg (hi.fdiv 4) (by decide), Int.fmod_eq_emod_of_nonneg (hi.fdiv 16) (by decide), Int.fmod_eq_emod_of_nonneg (hi.fdiv 64) (by decide),
    Int.fdiv_eq_ediv_of_nonneg lo (by decide), Int.fdiv_eq_ediv_of_nonneg lo (by decide), Int.fdiv_eq_ediv_of_nonneg lo (by decide),
    Int.fdiv_eq_ediv_of_nonneg hi (by decide), Int.fdiv_eq_ediv_of_nonneg hi (by decide), Int.fdiv_eq_ediv_of_nonneg hi (by decide)]
  rw [show (8 * k + lo % 4).toNat = 8 * pre.length + lo.toNat / 1 % 4 from by omega, show (8 * k + lo / 4 % 4).toNat = 8 * pre.length + lo.toNat / 4 % 4 from by omega,
    show (8 * k + lo / 16 % 4).toNat = 8 * pre.length + lo.toNat / 16 % 4 from by omega, show (8 * k + lo / 64 % 4).toNat = 8 * pre.length + lo.toNat / 64 % 4 from by omega,
    show (8 * k + 4 + hi % 4).toNat = 8 * pre.length + (4 + hi.toNat / 1 % 4) from by omega, show (8 * k + 4 + hi / 4 % 4).toNat = 8 * pre.length + (4 + hi.toNat / 4 % 4) from by omega,
    show (8 * k + 4 + hi / 16 % 4).toNat = 8 * pre.length + (4 + hi.toNat / 16 % 4) from by omega, show (8 * k + 4 + hi / 64 % 4).toNat = 8 * pre.length + (4 + hi.toNat / 64 % 4) from by omega]
end My
open PySem PySem.W
namespace My
theorem said : PySem.Challenge.rw_smallrows_s06_order.wellSaid = true := by decide +kernel
abbrev Req (n : Int) (lo : Int) (hi : Int) (x : List Int) : Prop := PySem.Challenge.rw_smallrows_s06_order.pre [WData.int n, WData.int lo, WData.int hi, ofPy (PyData.list (x.map PyData.int))] = true
theorem opened {n : Int} {lo : Int} {hi : Int} {x : List Int} (h : Req n lo hi x) : OrderAsked n lo hi x := by
  obtain ⟨⟨n', lo', hi', x', u⟩, w, q, e⟩ := os_pre said h
  have e1 := os_j_int (List.cons.inj e).1
  have e2 := os_j_int (List.cons.inj (List.cons.inj e).2).1
  have e3 := os_j_int (List.cons.inj (List.cons.inj (List.cons.inj e).2).2).1
  have e4 := os_j_ints (List.cons.inj (List.cons.inj (List.cons.inj (List.cons.inj e).2).2).2).1
  subst e1 e2 e3 e4
  exact order_asked q
theorem shut {n : Int} {lo : Int} {hi : Int} {x : List Int} {a : List Int} (h : Req n lo hi x) (ea : a = PySf26.order n lo hi x) :
    PySem.Challenge.rw_smallrows_s06_order.post [WData.int n, WData.int lo, WData.int hi, ofPy (PyData.list (x.map PyData.int))] (ofPy (PyData.list (a.map PyData.int))) = true := by
  obtain ⟨⟨n', lo', hi', x', u⟩, w, q, e⟩ := os_pre said h
  have e1 := os_j_int (List.cons.inj e).1
  have e2 := os_j_int (List.cons.inj (List.cons.inj e).2).1
  have e3 := os_j_int (List.cons.inj (List.cons.inj (List.cons.inj e).2).2).1
  have e4 := os_j_ints (List.cons.inj (List.cons.inj (List.cons.inj (List.cons.inj e).2).2).2).1
  subst e1 e2 e3 e4
  rw [e]
  refine os_shut said w ?_
  subst ea
  exact os_list rfl
abbrev argF {n lo hi : Int} {x : List Int} (_ : Req n lo hi x) : Nat → List Int := orderG lo hi x
inductive Cases (n lo hi : Int) (x : List Int) : Prop where
  | low (h : n < 0)
  | high (h : 1048576 < n)
  | l0 (h0 : 0 ≤ n) (h1 : n ≤ 1048576) (h2 : lo < 0)
  | l1 (h0 : 0 ≤ n) (h1 : n ≤ 1048576) (h2 : 255 < lo)
  | u0 (h0 : 0 ≤ n) (h1 : n ≤ 1048576) (h2 : 0 ≤ lo) (h3 : lo ≤ 255) (h4 : hi < 0)
  | u1 (h0 : 0 ≤ n) (h1 : n ≤ 1048576) (h2 : 0 ≤ lo) (h3 : lo ≤ 255) (h4 : 255 < hi)
  | ok (h0 : 0 ≤ n) (h1 : n ≤ 1048576) (h2 : 0 ≤ lo) (h3 : lo ≤ 255) (h4 : 0 ≤ hi) (h5 : hi ≤ 255) (hx : (x.length : Int) = 8 * n)
theorem cases {n lo hi : Int} {x : List Int} (h : Req n lo hi x) : Cases n lo hi x := by
  have q := opened h
  by_cases h0 : 0 ≤ n
  · by_cases h1 : n ≤ 1048576
    · by_cases h2 : 0 ≤ lo
      · by_cases h3 : lo ≤ 255
        · by_cases h4 : 0 ≤ hi
          · by_cases h5 : hi ≤ 255
            · exact .ok h0 h1 h2 h3 h4 h5 (q.ok h0 h1 h2 h3 h4 h5)
            · exact .u1 h0 h1 h2 h3 (by omega)
          · exact .u0 h0 h1 h2 h3 (by omega)
        · exact .l1 h0 h1 (by omega)
      · exact .l0 h0 h1 (by omega)
    · exact .high (by omega)
  · exact .low (by omega)
end My
open PyProof.Rows in
local macro_rules | `(tactic| walk_at "call builtin:list.append") => `(tactic| (k_here; (with_reducible show wpAny _ _ (call (Value.builtin _) [Value.ref _, _]) _ _ _); k_dflt (refine' append_K ?k1 ?k2 ?k3 ?_ ?z; (case k1 => k_asm); (case k2 => k_asm); (case k3 => k_upd); (case z => (simp only [List.size_toArray, PySem.sizeLine_eq]; omega)); k_whole); intro h' F' N'; (try k_sweep)))
local macro_rules | `(tactic| walk_at "call type:range") => `(tactic| (k_here; k_dflt (exfalso; omega)))
namespace My
open PyProof.Rows
theorem unr_endL {h₀ : Heap} {L I : Addr} {it : Obj} {rest : (Str → Option Value) → List (Addr × Obj) → Prop} {s₁ : Shared} {h' : Heap} {tk : Nat} {m' : Str → Option Value} {news news' : List (Addr × Obj)} (F : Fr h₀ L h' m')
    (N : News h₀ L h' ((I, it) :: news')) (l1 : ∀ p ∈ news, p.1 < I) (e : news'.map (fun p => p.1) = news.map (fun p => p.1)) (r : rest m' news') : UnrEnd h₀ L s₁ I it rest { s₁ with heap := h', toks := tk } :=
  UnrEnd.intro F N news' (fun _ h => h) (fun p hp => by
    have : p.1 ∈ news.map (fun p => p.1) := by rw [← e]; exact List.mem_map_of_mem hp
    obtain ⟨q, hq, e2⟩ := List.mem_map.mp this
    have := l1 q hq
    rw [e2] at this
    exact Nat.ne_of_lt this) r
end My
local macro_rules | `(tactic| walk_at "UnrEnd") => `(tactic| (refine My.unr_endL (by assumption) (by assumption) (by assumption) (by rfl) ⟨by k_mem, ?_⟩))
open PyProof.Rows in
local macro_rules | `(tactic| walk_at "pyIter ref") => `(tactic| (k_here; (with_reducible show wpAny _ _ (pyIter (Value.ref _)) (fun it s₂ => LoopAtV _ _ _ _ _ _ _ _ _ it s₂) _ _); k_dflt ((with_unfolding_all refine iter_listUnr (vs := [_, _, _, _]) (by rfl) (by assumption) (by assumption) (by k_mem) (by rfl) (by rfl) ?_)); intro i' l1; (have l2 := l1); (try k_lt l2)))
set_option maxRecDepth 100000 in
set_option maxHeartbeats 8000000 in
theorem PySem.Challenge.cw_smallrows_s06_order_holds : PySem.Challenge.rw_smallrows_s06_order.Holds := by
  k_with "state" => first
    | exact My.order_start
    | exact My.order_turn (by assumption) (by assumption) (by assumption) (by assumption) (by assumption)
  k_with "pyIter ref" => (k_of "g" => k_state (fun pre answer => answer.length = 8 * pre.length + 1 ∧ My.ToldG (My.argF hc0) pre.length answer) "answer")
  w_on; k_headS
  case hw => exact ⟨[.int 0, .int 0, .int 0, .list []], by decide +kernel, by decide +kernel⟩
  w_strict (
    k_goS0
    rename PySem.Challenge.rw_smallrows_s06_order.pre _ = true => hc0
    cases My.cases hc0 with
    | low h => ((all_goals try k_fold); k_steps; (all_goals (try (w_end; sp_is; wrow_close))); all_goals (sp_left; exact My.shut (a := [-1]) hpre (My.order_no (by omega)).symm))
    | high h => ((all_goals try k_fold); k_steps; (all_goals (try (w_end; sp_is; wrow_close))); all_goals (sp_left; exact My.shut (a := [-1]) hpre (My.order_no (by omega)).symm))
    | l0 h0 h1 h2 => ((all_goals try k_fold); k_steps; (all_goals (try (w_end; sp_is; wrow_close))); all_goals (sp_left; exact My.shut (a := [-1]) hpre (My.order_no (by omega)).symm))
    | l1 h0 h1 h2 => ((all_goals try k_fold); k_steps; (all_goals (try (w_end; sp_is; wrow_close))); all_goals (sp_left; exact My.shut (a := [-1]) hpre (My.order_no (by omega)).symm))
    | u0 h0 h1 h2 h3 h4 => ((all_goals try k_fold); k_steps; (all_goals (try (w_end; sp_is; wrow_close))); all_goals (sp_left; exact My.shut (a := [-1]) hpre (My.order_no (by omega)).symm))
    | u1 h0 h1 h2 h3 h4 => ((all_goals try k_fold); k_steps; (all_goals (try (w_end; sp_is; wrow_close))); all_goals (sp_left; exact My.shut (a := [-1]) hpre (My.order_no (by omega)).symm))
    | ok h0 h1 h2 h3 h4 h5 hx => ((all_goals try k_fold); k_steps; (all_goals (try (w_end; sp_is; wrow_close))); all_goals (sp_left; refine My.shut hpre (My.order_end (My.opened hpre) h0 h1 ⟨h2, h3⟩ ⟨h4, h5⟩ ?_ (by assumption)); simp only [rangeKs_length]; omega)))
#print axioms PySem.Challenge.cw_smallrows_s06_order_holds
