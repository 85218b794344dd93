import PyProof.Rows.All
import KE.OsGo
import KE.OsArgs
import PySem.Challenge.RW_smallrows_s07_slide
set_option Elab.async false
set_option maxRecDepth 100000
namespace My
open Sf26Neutral
theorem asked_one {c : Call} (h : asked [c] = true) : asked1 c = true := by
  simp only [asked, List.all_cons, List.all_nil, Bool.and_true, Bool.and_eq_true] at h
  exact h.1.2
theorem size_iff {n : Int} : Sf26.size n = true ↔ 0 ≤ n ∧ n ≤ 1048576 := by
  unfold Sf26.size Sf26.MOST
  rw [Bool.and_eq_true, decide_eq_true_eq, decide_eq_true_eq]
  exact Iff.rfl
theorem from_iff {z a b : Int} : Sf26.from_ z a b = true ↔ a ≤ z ∧ z ≤ b := by
  unfold Sf26.from_
  rw [Bool.and_eq_true, decide_eq_true_eq, decide_eq_true_eq]
theorem getD_of {P : Int → Prop} {l : List Int} (h : ∀ v ∈ l, P v) (i : Nat) (hi : i < l.length) : P (l.getD i 0) := by
  have e : l.getD i 0 = l[i] := by simp [List.getD, hi]
  rw [e]
  exact h _ (List.getElem_mem hi)
theorem getD_all {P : Int → Prop} {l : List Int} (h : ∀ v ∈ l, P v) (h0 : P 0) (i : Nat) : P (l.getD i 0) := by
  by_cases hi : i < l.length
  · exact getD_of h i hi
  · have e : l.getD i 0 = 0 := by simp [List.getD, hi]
    rw [e]; exact h0
theorem zip_range {β : Type} (x y : List Int) (g : Nat → Nat → β) (m : Nat) (hx : x.length = m) (hy : y.length = m) :
    ((natsOf x).zip (natsOf y)).map (fun p => g p.1 p.2) = (List.range m).map fun i => g (x.getD i 0).toNat (y.getD i 0).toNat := by
  apply List.ext_getElem
  · simp [natsOf, hx, hy]
  · intro i h1 h2
    have hi : i < m := by simpa using h2
    have hxi : i < x.length := by omega
    have hyi : i < y.length := by omega
    simp [natsOf, List.getD, hxi, hyi]
theorem nats_range {β : Type} (x : List Int) (g : Nat → β) (m : Nat) (hx : x.length = m) :
    (natsOf x).map g = (List.range m).map fun i => g (x.getD i 0).toNat := by
  apply List.ext_getElem
  · simp [natsOf, hx]
  · intro i h1 h2
    have hi : i < m := by simpa using h2
    have hxi : i < x.length := by omega
    simp [natsOf, List.getD, hxi]
structure SlideAsked (n k : Int) (x : List Int) : Prop where
  ok : 0 ≤ n → n ≤ 1048576 → -16 ≤ k → k ≤ 16 → (x.length : Int) = 16 * n
  px : ∀ v ∈ x, 0 ≤ v ∧ v ≤ 255
theorem slide_asked {n k : Int} {x : List Int} (h : PySf26.slide_asked n k x = true) : SlideAsked n k x := by
  have h1 := asked_one h
  simp only [asked1, Bool.and_eq_true, beq_iff_eq, List.all_eq_true, natural, decide_eq_true_eq, byte, within] at h1
  obtain ⟨_, ⟨l1, hx⟩⟩ := h1
  refine ⟨fun a b c d => ?_, hx⟩
  rw [if_pos ⟨⟨a, b⟩, c, d⟩] at l1
  exact l1
theorem slide_no {n k : Int} {x : List Int} (h : ¬ (0 ≤ n ∧ n ≤ 1048576 ∧ -16 ≤ k ∧ k ≤ 16)) : PySf26.slide n k x = [-1] := by
  have e : PySf26.slide n k x = listOf (Sf26.spec (.slide n k (natsOf x))) := rfl
  rw [e]
  unfold Sf26.spec
  rw [if_neg]
  · rfl
  · intro r
    apply h
    simp only [Sf26.Call.right, size_iff, from_iff, Bool.and_eq_true] at r
    exact ⟨r.1.1, r.1.2, r.2⟩
theorem slide_yes {n k : Int} {x : List Int} (h : 0 ≤ n ∧ n ≤ 1048576 ∧ -16 ≤ k ∧ k ≤ 16) : PySf26.slide n k x = 0 :: ((Sf26.groups 16 (natsOf x)).flatMap (Sf26.slide k)).map (fun (k : Nat) => (k : Int)) := by
  have e : PySf26.slide n k x = listOf (Sf26.spec (.slide n k (natsOf x))) := rfl
  rw [e]
  unfold Sf26.spec
  rw [if_pos]
  · rfl
  · simp only [Sf26.Call.right, size_iff, from_iff, Bool.and_eq_true]
    exact ⟨⟨h.1, h.2.1⟩, h.2.2⟩
/-- groups by their places -/
theorem groups_len (k n : Nat) (hk : 0 < k) (l : List Nat) (h : l.length = k * n) : Sf26.groups k l = (List.range n).map fun i => (l.drop (k * i)).take k := by
  unfold Sf26.groups
  rw [h, Nat.mul_div_cancel_left n hk]
theorem natsOf_len (x : List Int) : (natsOf x).length = x.length := by simp [natsOf]
theorem group_at (x : List Int) (k g j : Nat) (hj : j < k) : (((natsOf x).drop (k * g)).take k).getD j 0 = (x.getD (k * g + j) 0).toNat := by
  simp only [List.getD, natsOf]
  rw [List.getElem?_take_of_lt hj, List.getElem?_drop, List.getElem?_map]
  cases x[k * g + j]? <;> rfl
theorem groups_flat {β : Type} (k n : Nat) (hk : 0 < k) (x : List Int) (h : x.length = k * n) (G : List Nat → List β) :
    (Sf26.groups k (natsOf x)).flatMap G = (List.range n).flatMap fun g => G (((natsOf x).drop (k * g)).take k) := by
  rw [groups_len k n hk _ (by rw [natsOf_len, h]), List.flatMap_map]
theorem groups_flat2 {β : Type} (k n : Nat) (hk : 0 < k) (x y : List Int) (hx : x.length = k * n) (hy : y.length = k * n) (G : List Nat → List Nat → List β) :
    ((Sf26.groups k (natsOf x)).zip (Sf26.groups k (natsOf y))).flatMap (fun p => G p.1 p.2) = (List.range n).flatMap fun g => G (((natsOf x).drop (k * g)).take k) (((natsOf y).drop (k * g)).take k) := by
  rw [groups_len k n hk _ (by rw [natsOf_len, hx]), groups_len k n hk _ (by rw [natsOf_len, hy]), List.zip_map', List.flatMap_map]
/-- what stands behind the 0 after k groups -/
structure ToldG (F : Nat → List Int) (k : Nat) (a : List Int) : Prop where
  eq : a = 0 :: (List.range k).flatMap F
theorem toldG_start {F : Nat → List Int} : ToldG F 0 [0] := ⟨rfl⟩
theorem toldG_turn {F : Nat → List Int} {a l : List Int} {k : Nat} (h : ToldG F k a) (hl : l = F k) : ToldG F (k + 1) (a ++ l) := by
  refine ⟨?_⟩
  rw [List.range_succ, List.flatMap_append, h.eq, hl]
  simp
theorem cast_flat (n : Nat) (G : Nat → List Nat) (F : Nat → List Int) (h : ∀ g, g < n → (G g).map (fun (k : Nat) => (k : Int)) = F g) :
    ((List.range n).flatMap G).map (fun (k : Nat) => (k : Int)) = (List.range n).flatMap F := by
  induction n with
  | zero => rfl
  | succ m ih =>
    rw [List.range_succ, List.flatMap_append, List.flatMap_append, List.map_append, ih (fun g hg => h g (by omega))]
    simp [h m (by omega)]
theorem nn_all {P : Int → Prop} {l : List Int} (h : ∀ v ∈ l, 0 ≤ v ∧ P v) (i : Nat) : 0 ≤ l.getD i 0 := getD_all (P := fun v => 0 ≤ v) (fun v m => (h v m).1) (Int.le_refl 0) i
def slideG (k : Int) (x : List Int) (g : Nat) : List Int := (List.range 16).map fun (j : Nat) => if 0 ≤ (j : Int) - k ∧ (j : Int) - k < 16 then x.getD (16 * g + ((j : Int) - k).toNat) 0 else 0
theorem slide_end {n k : Int} {x a : List Int} (q : SlideAsked n k x) (h0 : 0 ≤ n) (h1 : n ≤ 1048576) (h2 : -16 ≤ k) (h3 : k ≤ 16) {m : Nat} (hm : (m : Int) = n) (t : ToldG (slideG k x) m a) : a = PySf26.slide n k x := by
  have lx := q.ok h0 h1 h2 h3
  rw [t.eq, slide_yes ⟨h0, h1, h2, h3⟩, groups_flat 16 m (by decide) x (by omega)]
  congr 1
  symm
  apply cast_flat
  intro g _
  unfold Sf26.slide slideG
  rw [List.map_map]
  have hx := nn_all q.px
  apply List.map_congr_left
  intro j _
  show (((if 0 ≤ (j : Int) - k ∧ (j : Int) - k < 16 then (((natsOf x).drop (16 * g)).take 16).getD ((j : Int) - k).toNat 0 else 0) : Nat) : Int) = _
  split
  · rw [group_at x 16 g _ (by omega)]
    have := hx (16 * g + ((j : Int) - k).toNat)
    omega
  · rfl
/-- what stands behind the 0 after k turns, by places -/
structure Told (F : Nat → Int) (k : Nat) (a : List Int) : Prop where
  eq : a = 0 :: (List.range k).map F
theorem told_start {F : Nat → Int} : [(0 : Int)].length = ([] : List Int).length + 1 ∧ Told F ([] : List Int).length [0] := ⟨rfl, ⟨rfl⟩⟩
theorem told_turn {F : Nat → Int} {a pre : List Int} {k v : Int} (h : Told F pre.length a) (hl : a.length = pre.length + 1) (hv : v = F pre.length) :
    (a ++ [v]).length = (pre ++ [k]).length + 1 ∧ Told F (pre ++ [k]).length (a ++ [v]) := by
  have l : (pre ++ [k]).length = pre.length + 1 := by simp
  rw [l]
  refine ⟨by simp [hl], ⟨?_⟩⟩
  rw [List.range_succ, List.map_append, h.eq, hv]
  rfl
@[irreducible] def byteI (x : List Int) (start place : Int) : Int := if 0 ≤ place ∧ place < 16 then x.getD (start + place).toNat 0 else 0
@[irreducible] def slideF (k : Int) (x : List Int) (i : Nat) : Int := byteI x (16 * ((i / 16 : Nat) : Int)) (((i % 16 : Nat) : Int) - k)
theorem slideG_F (k : Int) (x : List Int) (g : Nat) : slideG k x g = (List.range 16).map fun j => slideF k x (16 * g + j) := by
  unfold slideG
  apply List.map_congr_left
  intro j hj
  have hj : j < 16 := List.mem_range.mp hj
  have e1 : (16 * g + j) / 16 = g := by omega
  have e2 : (16 * g + j) % 16 = j := by omega
  unfold slideF byteI
  rw [e1, e2]
  split
  · congr 1
    omega
  · rfl
theorem flat_places {F : Nat → Int} {H : Nat → List Int} (c : Nat) (h : ∀ g, H g = (List.range c).map fun j => F (c * g + j)) (m : Nat) : (List.range m).flatMap H = (List.range (c * m)).map F := by
  induction m with
  | zero => rfl
  | succ m ih =>
    rw [List.range_succ, List.flatMap_append, ih, Nat.mul_succ, List.range_add, List.map_append, List.map_map]
    simp [h m]
theorem told_places {F : Nat → Int} {H : Nat → List Int} (c : Nat) (h : ∀ g, H g = (List.range c).map fun j => F (c * g + j)) {m : Nat} {a : List Int} (t : Told F (c * m) a) : ToldG H m a := ⟨by rw [t.eq, flat_places c h]⟩
theorem out_start {F : Nat → Int} : [(0 : Int)].length = 16 * ([] : List Int).length + 1 ∧ Told F (16 * ([] : List Int).length) [0] := ⟨rfl, ⟨rfl⟩⟩
theorem in_start {F : Nat → Int} {a kp : List Int} (h : Told F (16 * kp.length) a) (hl : a.length = 16 * kp.length + 1) :
    a.length = 16 * kp.length + ([] : List Int).length + 1 ∧ Told F (16 * kp.length + ([] : List Int).length) a := ⟨hl, h⟩
theorem in_turn {k0 : Int} {x a kp pre : List Int} {kn k : Int} (h : Told (slideF k0 x) (16 * kp.length + pre.length) a) (hl : a.length = 16 * kp.length + pre.length + 1)
    (hn : kn = 0 + (kp.length : Int)) (hk : k = 0 + (pre.length : Int)) (hlt : pre.length < 16) :
    (a ++ [byteI x (16 * kn) (k - k0)]).length = 16 * kp.length + (pre ++ [k]).length + 1 ∧ Told (slideF k0 x) (16 * kp.length + (pre ++ [k]).length) (a ++ [byteI x (16 * kn) (k - k0)]) := by
  have l : (pre ++ [k]).length = pre.length + 1 := by simp
  rw [l]
  refine ⟨by simp only [List.length_append, List.length_cons, List.length_nil, hl]; omega, ⟨?_⟩⟩
  rw [show 16 * kp.length + (pre.length + 1) = (16 * kp.length + pre.length) + 1 from by omega, List.range_succ, List.map_append, h.eq]
  have e : slideF k0 x (16 * kp.length + pre.length) = byteI x (16 * kn) (k - k0) := by
    unfold slideF
    rw [show (16 * kp.length + pre.length) / 16 = kp.length from by omega, show (16 * kp.length + pre.length) % 16 = pre.length from by omega]
    rw [show kn = (kp.length : Int) from by omega, show k = (pre.length : Int) from by omega]
  simp [e]
theorem out_turn {F : Nat → Int} {a pre : List Int} {k : Int} {m : Nat} (h : Told F (16 * pre.length + m) a) (hl : a.length = 16 * pre.length + m + 1) (hm : m = 16) :
    a.length = 16 * (pre ++ [k]).length + 1 ∧ Told F (16 * (pre ++ [k]).length) a := by
  have l : (pre ++ [k]).length = pre.length + 1 := by simp
  rw [l]
  subst hm
  exact ⟨by omega, h⟩
end My
open PySem PySem.W
namespace My
theorem said : PySem.Challenge.rw_smallrows_s07_slide.wellSaid = true := by decide +kernel
abbrev Req (n : Int) (k : Int) (x : List Int) : Prop := PySem.Challenge.rw_smallrows_s07_slide.pre [WData.int n, WData.int k, ofPy (PyData.list (x.map PyData.int))] = true
theorem opened {n : Int} {k : Int} {x : List Int} (h : Req n k x) : SlideAsked n k x := by
  obtain ⟨⟨n', k', x', u⟩, w, q, e⟩ := os_pre said h
  have e1 := os_j_int (List.cons.inj e).1
  have e2 := os_j_int (List.cons.inj (List.cons.inj e).2).1
  have e3 := os_j_ints (List.cons.inj (List.cons.inj (List.cons.inj e).2).2).1
  subst e1 e2 e3
  exact slide_asked q
theorem shut {n : Int} {k : Int} {x : List Int} {a : List Int} (h : Req n k x) (ea : a = PySf26.slide n k x) :
    PySem.Challenge.rw_smallrows_s07_slide.post [WData.int n, WData.int k, ofPy (PyData.list (x.map PyData.int))] (ofPy (PyData.list (a.map PyData.int))) = true := by
  obtain ⟨⟨n', k', x', u⟩, w, q, e⟩ := os_pre said h
  have e1 := os_j_int (List.cons.inj e).1
  have e2 := os_j_int (List.cons.inj (List.cons.inj e).2).1
  have e3 := os_j_ints (List.cons.inj (List.cons.inj (List.cons.inj e).2).2).1
  subst e1 e2 e3
  rw [e]
  refine os_shut said w ?_
  subst ea
  exact os_list rfl
abbrev argF {n k : Int} {x : List Int} (_ : Req n k x) : Nat → Int := slideF k x
inductive Cases (n k : Int) (x : List Int) : Prop where
  | low (h : n < 0)
  | high (h : 1048576 < n)
  | klow (h0 : 0 ≤ n) (h1 : n ≤ 1048576) (h2 : k < -16)
  | khigh (h0 : 0 ≤ n) (h1 : n ≤ 1048576) (h2 : 16 < k)
  | ok (h0 : 0 ≤ n) (h1 : n ≤ 1048576) (h2 : -16 ≤ k) (h3 : k ≤ 16) (hx : (x.length : Int) = 16 * n)
theorem cases {n k : Int} {x : List Int} (h : Req n k x) : Cases n k x := by
  have q := opened h
  by_cases h0 : 0 ≤ n
  · by_cases h1 : n ≤ 1048576
    · by_cases h2 : -16 ≤ k
      · by_cases h3 : k ≤ 16
        · exact .ok h0 h1 h2 h3 (q.ok h0 h1 h2 h3)
        · exact .khigh h0 h1 (by omega)
      · exact .klow h0 h1 (by omega)
    · exact .high (by omega)
  · exact .low (by omega)
end My
open PyProof.Rows in
local macro_rules | `(tactic| walk_at "call builtin:list.append") => `(tactic| (k_here; (with_reducible show wpAny _ _ (call (Value.builtin _) [Value.ref _, _]) _ _ _); k_dflt (refine' append_K ?k1 ?k2 ?k3 ?_ ?z; (case k1 => k_asm); (case k2 => k_asm); (case k3 => k_upd); (case z => (simp only [List.size_toArray, PySem.sizeLine_eq]; omega)); k_whole); intro h' F' N'; (try k_sweep)))
local macro_rules | `(tactic| walk_at "call type:range") => `(tactic| (k_here; k_dflt (exfalso; omega)))
set_option maxRecDepth 100000 in
set_option maxHeartbeats 8000000 in
theorem PySem.Challenge.cw_smallrows_s07_slide_holds : PySem.Challenge.rw_smallrows_s07_slide.Holds := by
  k_with "call ref" => k_call_by "byte_or_nothing" My.byteI (fun (x : List Int) (start _ : Int) => 0 ≤ start ∧ start + 16 ≤ (x.length : Int))
  k_with "tree" => simp only [My.byteI]
  k_with "state" => first
    | exact My.out_start
    | exact My.in_start (by assumption) (by assumption)
    | exact My.in_turn (by assumption) (by assumption) (by assumption) (by assumption) (by omega)
    | exact My.out_turn (by assumption) (by assumption) (by simp only [rangeKs_length]; omega)
  k_with "pyIter ref" => (k_of "place" => k_state (fun pre answer => answer.length = 16 * kPre.length + pre.length + 1 ∧ My.Told (My.argF hc0) (16 * kPre.length + pre.length) answer) "answer")
  k_with "pyIter ref" => (k_of "g" => k_state (fun pre answer => answer.length = 16 * pre.length + 1 ∧ My.Told (My.argF hc0) (16 * pre.length) answer) "answer")
  w_on; k_headS
  case hw => exact ⟨[.int 0, .int 0, .list []], by decide +kernel, by decide +kernel⟩
  w_strict (
    k_goS0
    rename PySem.Challenge.rw_smallrows_s07_slide.pre _ = true => hc0
    cases My.cases hc0 with
    | low h => ((all_goals try k_fold); k_steps; (all_goals (try (w_end; sp_is; wrow_close))); all_goals (sp_left; exact My.shut (a := [-1]) hpre (My.slide_no (by omega)).symm))
    | high h => ((all_goals try k_fold); k_steps; (all_goals (try (w_end; sp_is; wrow_close))); all_goals (sp_left; exact My.shut (a := [-1]) hpre (My.slide_no (by omega)).symm))
    | klow h0 h1 h2 => ((all_goals try k_fold); k_steps; (all_goals (try (w_end; sp_is; wrow_close))); all_goals (sp_left; exact My.shut (a := [-1]) hpre (My.slide_no (by omega)).symm))
    | khigh h0 h1 h2 => ((all_goals try k_fold); k_steps; (all_goals (try (w_end; sp_is; wrow_close))); all_goals (sp_left; exact My.shut (a := [-1]) hpre (My.slide_no (by omega)).symm))
    | ok h0 h1 h2 h3 hx => ((all_goals try k_fold); k_steps; (all_goals (try (w_end; sp_is; wrow_close))); all_goals (sp_left; refine My.shut hpre (My.slide_end (My.opened hpre) h0 h1 h2 h3 ?_ (My.told_places 16 (My.slideG_F _ _) (by assumption))); simp only [rangeKs_length]; omega)))
#print axioms PySem.Challenge.cw_smallrows_s07_slide_holds
