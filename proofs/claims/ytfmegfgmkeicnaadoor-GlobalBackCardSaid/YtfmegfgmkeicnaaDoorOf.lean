/-
  A region that draws its order, walked in its written order: where each operation yields its own value wherever S holds, and keeps S, whatever order is drawn comes to the same.
-/
import Derived.Test.YtfmegfgmkeicnaaDoorProg
import Derived.Deep.RegionHeld
namespace Go.Proofs.YtfmegfgmkeicnaaDoor

section
variable {P : Program} {ops : Array Oper} {Q : Exit → Act → World → Prop} {S : World → Prop}

/-- an operation yields v wherever S holds, and keeps S -/
def YldS (P : Program) (ops : Array Oper) (S : World → Prop) (o : Oper) (v : Value) (a : Act) : Prop :=
  (Region.wanted o (yielded ops a.tmps) = true ∧ ∀ w, S w → o.wp P a w (fun c w' => c = a.put o.dst v ∧ S w') (fun _ _ _ => False)) ∨
  (Region.wanted o (yielded ops a.tmps) = false ∧ v = undef)
/-- one operation after another -/
def SeqS (P : Program) (ops : Array Oper) (S : World → Prop) (R : Act → Prop) : List Nat → Act → Prop
  | [], a => R a
  | i :: l, a => ∃ o v, ops[i]? = some o ∧ YldS P ops S o v a ∧ SeqS P ops S R l (a.put o.dst v)
def waitsFor (oi : Oper) (j : Nat) : Bool := oi.after.any fun e => Region.binds .any e && decide (e.on = j)
def seqOne (ops : Array Oper) (j : Nat) (oj : Oper) (i : Nat) (oi : Oper) : Bool := match oi.dst with
  | none => true
  | some d => (decide (i = j) || oj.dst != some d) && (!(oj.looksAt ops).contains d || (decide (i < j) && waitsFor oj i) || (decide (j < i) && waitsFor oi j))
def noSel (o : Oper) : Bool := match o.op with | .select .. => false | _ => true
def seqOK (ops : Array Oper) : Bool := ops.toList.zipIdx.all fun q =>
  noSel q.1 && (q.1.after.all fun e => !Region.binds .any e || decide (e.on < q.2)) && ops.toList.zipIdx.all fun r => seqOne ops q.2 q.1 r.2 r.1
theorem waitsFor_iff {o : Oper} {j : Nat} : waitsFor o j = true ↔ ∃ e ∈ o.after, Region.binds .any e = true ∧ e.on = j := by
  unfold waitsFor
  rw [Array.any_eq_true]
  constructor
  · rintro ⟨i, hi, h⟩
    rw [Bool.and_eq_true, decide_eq_true_eq] at h
    exact ⟨_, Array.getElem_mem hi, h.1, h.2⟩
  · rintro ⟨e, he, h1, h2⟩
    obtain ⟨i, hi, rfl⟩ := Array.mem_iff_getElem.1 he
    exact ⟨i, hi, by rw [Bool.and_eq_true, decide_eq_true_eq]; exact ⟨h1, h2⟩⟩
theorem mem_zip {l : List Oper} {i : Nat} {o : Oper} (h : l[i]? = some o) : (o, i) ∈ l.zipIdx := by
  rw [List.mem_zipIdx_iff_getElem?]; exact h
theorem seqOK_spec (h : seqOK ops = true) {j : Nat} {oj : Oper} (hj : ops[j]? = some oj) : (∀ cs b, oj.op ≠ .select cs b) ∧ (∀ e ∈ oj.after, Region.binds .any e = true → e.on < j) ∧
    ∀ i oi d, ops[i]? = some oi → oi.dst = some d → (i = j ∨ oj.dst ≠ some d) ∧ (d ∈ oj.looksAt ops → (i < j ∧ waitsFor oj i = true) ∨ (j < i ∧ waitsFor oi j = true)) := by
  unfold seqOK at h
  have hj' : ops.toList[j]? = some oj := by rw [Array.getElem?_toList]; exact hj
  have h1 := List.all_eq_true.1 h _ (mem_zip hj')
  simp only [Bool.and_eq_true] at h1
  refine ⟨fun cs b q => ?_, fun e he hb => ?_, fun i oi d hi hd => ?_⟩
  · have := h1.1.1; unfold noSel at this; rw [q] at this; cases this
  · have := Array.all_eq_true_iff_forall_mem.1 h1.1.2 e he
    simpa [hb] using this
  · have hi' : ops.toList[i]? = some oi := by rw [Array.getElem?_toList]; exact hi
    have h2 := List.all_eq_true.1 h1.2 _ (mem_zip hi')
    unfold seqOne at h2
    simp only [hd, Bool.and_eq_true, Bool.or_eq_true, decide_eq_true_eq] at h2
    refine ⟨h2.1.imp id (fun q => by simpa using q), fun hm => ?_⟩
    rcases h2.2 with (q | q) | q
    · have : (oj.looksAt ops).contains d = true := by simpa using hm
      rw [this] at q; cases q
    · exact .inl q
    · exact .inr q
/-- the acts and values, one after another -/
theorem SeqS.acts {R : Act → Prop} : ∀ (m k : Nat) (a : Act), SeqS P ops S R (List.range' k m) a → ∃ (A : Nat → Act) (V : Nat → Value), A 0 = a ∧ (∀ i, i < m → ∃ o, ops[k + i]? = some o ∧ YldS P ops S o (V i) (A i) ∧ A (i + 1) = (A i).put o.dst (V i)) ∧ R (A m)
  | 0, k, a, h => ⟨fun _ => a, fun _ => undef, rfl, fun i hi => absurd hi (Nat.not_lt_zero _), h⟩
  | m + 1, k, a, h => by
    rw [List.range'_succ] at h
    obtain ⟨o, v, ho, hy, h⟩ := h
    obtain ⟨A, V, h0, h1, h2⟩ := SeqS.acts m (k + 1) _ h
    refine ⟨fun i => match i with | 0 => a | i + 1 => A i, fun i => match i with | 0 => v | i + 1 => V i, rfl, fun i hi => ?_, h2⟩
    match i, hi with
    | 0, _ => exact ⟨o, ho, hy, h0⟩
    | i + 1, hi =>
      obtain ⟨o', q1, q2, q3⟩ := h1 i (by omega)
      exact ⟨o', by rw [show k + (i + 1) = k + 1 + i by omega]; exact q1, q2, q3⟩
theorem act_size (a : Act) (d : Option Tmp) (v : Value) : (a.put d v).tmps.size = a.tmps.size := by cases d <;> simp [Act.put]
theorem put_dfs (a : Act) (d : Option Tmp) (v : Value) : (a.put d v).defers = a.defers := by cases d <;> rfl
theorem put_ne (a : Act) (d : Option Tmp) (v : Value) (t : Nat) (h : d ≠ some t) : (a.put d v).tmps[t]? = a.tmps[t]? := by
  cases d with
  | none => rfl
  | some d => simp only [Act.put]; rw [Array.getElem?_setIfInBounds_ne (fun q => h (by rw [q]))]
theorem put_at (a b : Act) (t : Nat) (v : Value) (h : a.tmps.size = b.tmps.size) : (a.put (some t) v).tmps[t]? = (b.put (some t) v).tmps[t]? := by
  simp only [Act.put, Array.getElem?_setIfInBounds_self, h]
theorem act_same (a b : Act) (d : Option Tmp) (u v : Value) (hs : a.tmps.size = b.tmps.size) (h : a.put d u = a.put d v) : b.put d u = b.put d v := by
  cases d with
  | none => rfl
  | some t =>
    by_cases ht : t < a.tmps.size
    · have h1 : (a.put (some t) u).tmps[t]? = (a.put (some t) v).tmps[t]? := by rw [h]
      simp only [Act.put, Array.getElem?_setIfInBounds_self, ht, if_true, Option.some.injEq] at h1
      rw [h1]
    · simp only [Act.put]
      have hb : b.tmps.size ≤ t := by rw [← hs]; exact Nat.le_of_not_lt ht
      rw [Array.setIfInBounds_eq_of_size_le hb, Array.setIfInBounds_eq_of_size_le hb]
theorem count_less {p q : Nat → Bool} : ∀ (l : List Nat), (∀ x ∈ l, q x = true → p x = true) → (∃ x ∈ l, p x = true ∧ q x = false) → (l.filter q).length < (l.filter p).length
  | [], _, h => by obtain ⟨x, hx, _⟩ := h; cases hx
  | y :: l, h, ⟨x, hx, h1, h2⟩ => by
    have hle : ∀ l : List Nat, (∀ x ∈ l, q x = true → p x = true) → (l.filter q).length ≤ (l.filter p).length := by
      intro l
      induction l with
      | nil => intro _; simp
      | cons z l ih =>
        intro hz
        have i1 := ih (fun x hx => hz x (.tail _ hx))
        rw [List.filter_cons, List.filter_cons]
        cases hq : q z with
        | true => rw [hz z (.head _) hq]; simpa using i1
        | false => cases p z <;> simp <;> omega
    rw [List.filter_cons, List.filter_cons]
    rcases List.mem_cons.1 hx with rfl | hx
    · rw [h1, h2]
      have := hle l (fun x hx => h x (.tail _ hx))
      simp; omega
    · have i1 := count_less l (fun x hx => h x (.tail _ hx)) ⟨x, hx, h1, h2⟩
      cases hq : q y with
      | true => rw [h y (.head _) hq]; simpa using i1
      | false => cases p y <;> simp <;> omega
/-- what is kept while operations come up in whatever order -/
structure SInvR (ops : Array Oper) (a z : Act) (L : Array Bool) (b : Act) : Prop where
  size : L.size = ops.size
  shut : ∀ i o, ops[i]? = some o → L.getD i false = true → ∀ e ∈ o.after, Region.binds .any e = true → L.getD e.on false = true
  done : ∀ i o t, ops[i]? = some o → o.dst = some t → L.getD i false = true → b.tmps[t]? = z.tmps[t]?
  rest : ∀ t, (∀ i o, ops[i]? = some o → o.dst = some t → L.getD i false = false) → b.tmps[t]? = a.tmps[t]?
  dfs : b.defers = a.defers
  sz : b.tmps.size = a.tmps.size
theorem getD_bool {L : Array Bool} {i : Nat} (h : i < L.size) (b c : Bool) : L.getD i b = L.getD i c := by simp [Array.getD, h]
theorem set_at {L : Array Bool} {i : Nat} (h : i < L.size) (c : Bool) : (L.setIfInBounds i true).getD i c = true := by simp [Array.getD, h]
theorem wanted_same {o : Oper} {b c : Act} (h : ∀ t ∈ o.looksAt ops, b.tmps[t]? = c.tmps[t]?) : Region.wanted o (yielded ops b.tmps) = Region.wanted o (yielded ops c.tmps) := by
  unfold Region.wanted
  cases hg : o.guard with
  | none => rfl
  | some gw =>
    obtain ⟨g, want⟩ := gw
    have hy : yielded ops b.tmps g = yielded ops c.tmps g := by
      unfold yielded
      cases ht : (ops[g]?).bind (·.dst) with
      | none => rfl
      | some t =>
        have := h t (by simp [Oper.looksAt, hg, ht])
        simp only [Option.bind_some, this]
    simp only [hy]
theorem exec_same {o : Oper} {b c : Act} (hs : ∀ cs b, o.op ≠ .select cs b) (h : ∀ t ∈ o.looksAt ops, b.tmps[t]? = c.tmps[t]?) : execOp b.eval o = execOp c.eval o :=
  execOp_congr o hs fun x hx => by
    cases x with
    | tmp t =>
      have := h t (List.mem_append_left _ (List.mem_filterMap.2 ⟨.tmp t, by simpa using hx, rfl⟩))
      show b.tmps.getD t undef = c.tmps.getD t undef
      rw [Array.getD_eq_getD_getElem?, Array.getD_eq_getD_getElem?, this]
    | _ => rfl
theorem upon_turn {o : Oper} {b c : Act} {v : Value} {K : Act → World → Prop} {r : Result Next} (hsz : b.tmps.size = c.tmps.size) (hK : ∀ w', S w' → K (b.put o.dst v) w')
    (h : o.upon P c (fun d w' => d = c.put o.dst v ∧ S w') (fun _ _ _ => False) r) : o.upon P b K Q r := by
  have hp : ∀ u, c.put o.dst u = c.put o.dst v → ∀ w', S w' → K (b.put o.dst u) w' := fun u q w' hS => by rw [act_same c b o.dst u v hsz.symm q]; exact hK w' hS
  cases r with
  | ok n w' =>
    cases n <;> simp only [Oper.upon] at h ⊢
    case value u => exact hp u h.1 w' h.2
    case skip => exact hp undef h.1 w' h.2
    case defer d =>
      have := congrArg (fun x : Act => x.defers.length) h.1
      simp only [put_dfs, List.length_cons] at this
      omega
    case enter f args =>
      exact Calls.mono h (fun e w'' he => by
        cases e
        case returned u => exact hp u he.1 w'' he.2
        case panicked => exact he.elim
        case outgrown => obtain ⟨_, _, q⟩ := he; exact q.elim)
    case row row args => exact Rows.mono h (fun u w'' he => hp u he.1 w'' he.2)
    all_goals exact h.elim
  | halt x w' => cases x <;> simp only [Oper.upon] at h
set_option maxHeartbeats 1000000 in
theorem any_of_seq (hOK : seqOK ops = true) {a : Act} {A : Nat → Act} {V : Nat → Value} (h0 : A 0 = a) (h1 : ∀ i, i < ops.size → ∃ o, ops[i]? = some o ∧ YldS P ops S o (V i) (A i) ∧ A (i + 1) = (A i).put o.dst (V i)) (h2 : ∀ w, S w → Q .normal (A ops.size) w) :
    ∀ (n : Nat) (L : Array Bool) (b : Act) (w : World), SInvR ops a (A ops.size) L b → S w → ((List.range ops.size).filter fun i => !L.getD i true).length ≤ n → wpAny P .any ops Q n L b w := by
  have hput : ∀ i o, ops[i]? = some o → A (i + 1) = (A i).put o.dst (V i) := fun i o ho => by
    obtain ⟨o', q1, _, q3⟩ := h1 i (Array.getElem?_eq_some_iff.1 ho).1
    rw [ho] at q1; cases q1; exact q3
  have hdfs : ∀ i, i ≤ ops.size → (A i).defers = a.defers ∧ (A i).tmps.size = a.tmps.size := by
    intro i
    induction i with
    | zero => intro _; rw [h0]; exact ⟨rfl, rfl⟩
    | succ i ih =>
      intro hi
      obtain ⟨o, q1, _, q3⟩ := h1 i hi
      rw [q3, put_dfs, act_size]; exact ih (by omega)
  have F1 : ∀ i, i ≤ ops.size → ∀ t, (∀ k o, k < i → ops[k]? = some o → o.dst ≠ some t) → (A i).tmps[t]? = a.tmps[t]? := by
    intro i
    induction i with
    | zero => intro _ t _; rw [h0]
    | succ i ih =>
      intro hi t ht
      obtain ⟨o, q1, _, q3⟩ := h1 i hi
      rw [q3, put_ne _ _ _ _ (ht i o (Nat.lt_succ_self _) q1)]
      exact ih (by omega) t (fun k o hk => ht k o (by omega))
  have F2 : ∀ k o t, ops[k]? = some o → o.dst = some t → ∀ i, k + 1 ≤ i → i ≤ ops.size → (A i).tmps[t]? = (A (k + 1)).tmps[t]? := by
    intro k o t hk hd i
    induction i with
    | zero => intro hi _; omega
    | succ i ih =>
      intro hki hi
      by_cases hq : i = k
      · subst hq; rfl
      obtain ⟨o', q1, _, q3⟩ := h1 i hi
      rw [q3, put_ne]
      · exact ih (by omega) (by omega)
      · intro q
        rcases ((seqOK_spec hOK q1).2.2 k o t hk hd).1 with e | e
        · omega
        · exact e q
  have fin : ∀ (L : Array Bool) (b : Act) (w : World), SInvR ops a (A ops.size) L b → S w → (∀ i, i < ops.size → L.getD i false = true) → Q .normal b w := by
    intro L b w hI hS hall
    have : b = A ops.size := by
      have hd := hI.dfs.trans (hdfs _ (Nat.le_refl _)).1.symm
      have ht : b.tmps = (A ops.size).tmps := by
        apply Array.ext_getElem?
        intro t
        by_cases hx : ∃ (i : Nat) (o : Oper), ops[i]? = some o ∧ o.dst = some t
        · obtain ⟨i, o, q1, q2⟩ := hx
          exact hI.done i o t q1 q2 (hall i (Array.getElem?_eq_some_iff.1 q1).1)
        · have hn : ∀ (i : Nat) (o : Oper), ops[i]? = some o → o.dst ≠ some t := fun i o q1 q2 => hx ⟨i, o, q1, q2⟩
          rw [hI.rest t (fun i o q1 q2 => absurd q2 (hn i o q1)), F1 _ (Nat.le_refl _) t (fun k o _ q => hn k o q)]
      cases b; cases hA : A ops.size; rw [hA] at hd ht; simp only at hd ht; rw [hd, ht]
    rw [this]; exact h2 w hS
  have least : ∀ (L : Array Bool), L.size = ops.size → Region.ready .any ops L = [] → ∀ i, i < ops.size → L.getD i false = true := by
    intro L hL hr i
    induction i using Nat.strongRecOn with
    | _ i ih =>
      intro hi
      cases hq : L.getD i false with
      | true => rfl
      | false =>
        exfalso
        have hm : i ∈ Region.ready .any ops L := mem_ready.2 ⟨by rw [getD_bool (by omega) true false]; exact hq, ops[i], Array.getElem?_eq_getElem hi, fun e he hb => by
          have hlt := (seqOK_spec hOK (Array.getElem?_eq_getElem hi)).2.1 e he hb
          exact ih e.on hlt (by omega)⟩
        rw [hr] at hm; cases hm
  intro n
  induction n with
  | zero =>
    intro L b w hI hS hc
    have hall : ∀ i, i < ops.size → L.getD i false = true := fun i hi => by
      have hnil : ((List.range ops.size).filter fun i => !L.getD i true) = [] := List.length_eq_zero_iff.1 (by omega)
      have := List.filter_eq_nil_iff.1 hnil i (List.mem_range.2 hi)
      rw [getD_bool (by rw [hI.size]; exact hi) false true]
      simpa using this
    refine ⟨?_, fin L b w hI hS hall⟩
    unfold Region.ready
    rw [List.filter_eq_nil_iff]
    intro i hi
    have := hall i (List.mem_range.1 hi)
    rw [getD_bool (by rw [hI.size]; exact List.mem_range.1 hi) false true] at this
    simp [this]
  | succ n ih =>
    intro L b w hI hS hc
    refine ⟨fun hr => fin L b w hI hS (least L hI.size hr), fun j hj => ?_⟩
    obtain ⟨hun, oj, hoj, hdep⟩ := mem_ready.1 hj
    have hjl : j < ops.size := (Array.getElem?_eq_some_iff.1 hoj).1
    have hunf : L.getD j false = false := by rw [getD_bool (by rw [hI.size]; exact hjl) false true]; exact hun
    obtain ⟨hsel, _, hpair⟩ := seqOK_spec hOK hoj
    obtain ⟨o', q1, hY, hA⟩ := h1 j hjl
    rw [hoj] at q1; cases q1
    have hlook : ∀ t ∈ oj.looksAt ops, b.tmps[t]? = (A j).tmps[t]? := by
      intro t ht
      by_cases hx : ∃ (i : Nat) (o : Oper), ops[i]? = some o ∧ o.dst = some t
      · obtain ⟨i, oi, hi, hd⟩ := hx
        have hil := (Array.getElem?_eq_some_iff.1 hi).1
        rcases (hpair i oi t hi hd).2 ht with ⟨hlt, hw⟩ | ⟨hlt, hw⟩
        · obtain ⟨e, he, hb, hon⟩ := waitsFor_iff.1 hw
          have hLi := hdep e he hb
          rw [hon] at hLi
          rw [hI.done i oi t hi hd hLi, F2 i oi t hi hd _ (by omega) (Nat.le_refl _), F2 i oi t hi hd j (by omega) (by omega)]
        · have only : ∀ k o, ops[k]? = some o → o.dst = some t → k = i := fun k o hk hkd => by
            rcases ((seqOK_spec hOK hk).2.2 i oi t hi hd).1 with e | e
            · exact e.symm
            · exact absurd hkd e
          rw [hI.rest t (fun k o hk hkd => by
            obtain rfl := only k o hk hkd
            rw [hi] at hk; cases hk
            cases hq : L.getD k false with
            | false => rfl
            | true =>
              obtain ⟨e, he, hb, hon⟩ := waitsFor_iff.1 hw
              have := hI.shut k _ hi hq e he hb
              rw [hon, hunf] at this; cases this), F1 j (by omega) t (fun k o hk hko hkd => by
            have := only k o hko hkd; omega)]
      · have hn : ∀ (i : Nat) (o : Oper), ops[i]? = some o → o.dst ≠ some t := fun i o q1 q2 => hx ⟨i, o, q1, q2⟩
        rw [hI.rest t (fun i o q1 q2 => absurd q2 (hn i o q1)), F1 j (by omega) t (fun k o _ q => hn k o q)]
    have hszj := (hdfs j (by omega)).2
    have next : ∀ w', S w' → wpAny P .any ops Q n (L.setIfInBounds j true) (b.put oj.dst (V j)) w' := by
      intro w' hS'
      refine ih _ _ w' ⟨by simp [hI.size], ?_, ?_, ?_, by rw [put_dfs]; exact hI.dfs, by rw [act_size]; exact hI.sz⟩ hS' ?_
      · intro i o hi hLi e he hb
        by_cases hij : j = i
        · subst hij
          rw [hoj] at hi; cases hi
          exact getD_set_true (hdep e he hb)
        · rw [getD_set_ne false hij] at hLi
          exact getD_set_true (hI.shut i o hi hLi e he hb)
      · intro i o t hi hd hLi
        by_cases hij : j = i
        · subst hij
          rw [hoj] at hi; cases hi
          rw [hd, F2 j oj t hoj hd _ (by omega) (Nat.le_refl _), hput j oj hoj, hd]
          exact put_at _ _ _ _ (by rw [hI.sz, hszj])
        · rw [getD_set_ne false hij] at hLi
          rw [put_ne _ _ _ _ (fun q => by
            rcases (hpair i o t hi hd).1 with e | e
            · exact hij e.symm
            · exact e q)]
          exact hI.done i o t hi hd hLi
      · intro t ht
        rw [put_ne _ _ _ _ (fun q => by
          have := ht j oj hoj q
          rw [set_at (by rw [hI.size]; exact hjl)] at this; cases this)]
        exact hI.rest t (fun i o hi hd => by
          have := ht i o hi hd
          by_cases hij : j = i
          · subst hij; exact hunf
          · rw [getD_set_ne false hij] at this; exact this)
      · have := count_less (p := fun i => !L.getD i true) (q := fun i => !(L.setIfInBounds j true).getD i true) (List.range ops.size) (fun x _ hx => by
          by_cases hij : j = x
          · subst hij; rw [hun]; rfl
          · rw [getD_set_ne true hij] at hx; exact hx) ⟨j, List.mem_range.2 hjl, by rw [hun]; rfl, by rw [set_at (by rw [hI.size]; exact hjl)]; rfl⟩
        omega
    unfold wpOp
    simp only [hoj]
    rw [wanted_same (c := A j) hlook]
    rcases hY with ⟨hw, hy⟩ | ⟨hw, hv⟩
    · rw [if_pos hw]
      refine .inl ?_
      have := hy w hS
      unfold Oper.wp at this ⊢
      rw [exec_same hsel hlook]
      exact upon_turn (by rw [hI.sz, hszj]) next this
    · rw [if_neg (by rw [hw]; simp), ← hv]
      exact next w hS
theorem region_seq {id : Nat} {a : Act} {w : World} (S : World → Prop) (l : List Nat) (hl : List.range ops.size = l) (hm : P.follows .mixedOrders = true) (hOK : seqOK ops = true) (hS : S w.drew) (h : SeqS P ops S (fun a => ∀ w, S w → Q .normal a w) l a) : (Code.region id ops true).wp P Q a w := by
  rw [← hl, List.range_eq_range'] at h
  obtain ⟨A, V, h0, h1, h2⟩ := SeqS.acts ops.size 0 a h
  refine wp_region_any hm (any_of_seq hOK h0 (fun i hi => by simpa using h1 i hi) h2 ops.size _ a _ ⟨by simp, ?_, ?_, ?_, rfl, rfl⟩ hS ?_)
  · intro i o hi hL; simp [Array.getD] at hL
  · intro i o t hi hd hL; simp [Array.getD] at hL
  · intro t _; rfl
  · exact Nat.le_trans (List.length_filter_le _ _) (by simp)
theorem SeqS.done {R : Act → Prop} {a : Act} (h : R a) : SeqS P ops S R [] a := h
/-- one operation that is wanted -/
theorem SeqS.one {R : Act → Prop} {i : Nat} {l : List Nat} {o : Oper} {a : Act} (v : Value) (ho : ops[i]? = some o) (hw : Region.wanted o (yielded ops a.tmps) = true) (hy : ∀ w, S w → o.wp P a w (fun c w' => c = a.put o.dst v ∧ S w') (fun _ _ _ => False)) (h : SeqS P ops S R l (a.put o.dst v)) : SeqS P ops S R (i :: l) a := ⟨o, v, ho, .inl ⟨hw, hy⟩, h⟩
/-- one that is not -/
theorem SeqS.no {R : Act → Prop} {i : Nat} {l : List Nat} {o : Oper} {a : Act} (ho : ops[i]? = some o) (hw : Region.wanted o (yielded ops a.tmps) = false) (h : SeqS P ops S R l (a.put o.dst undef)) : SeqS P ops S R (i :: l) a := ⟨o, undef, ho, .inr ⟨hw, rfl⟩, h⟩
end
end Go.Proofs.YtfmegfgmkeicnaaDoor
