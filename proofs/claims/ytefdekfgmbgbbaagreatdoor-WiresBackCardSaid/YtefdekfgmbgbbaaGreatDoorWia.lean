/-
  PLAIN: events as bytes: what is written of an event, and how one is read; what is written is read, what is read was written so, and a reading looks at nothing behind its end.
-/
import Derived.Test.YtefdekfgmbgbbaaGreatDoorEvt
import Derived.Test.YtefdekfgmbgbbaaGreatDoorWa
namespace Go.Proofs.YtefdekfgmbgbbaaGreatDoor
open Go.RowKit Go.Shelf

/-- a number in groups of seven bits, at most so many more -/
def vNf : Nat → Nat → List UInt8
  | 0, n => [UInt8.ofNat n]
  | f + 1, n => if n < 128 then [UInt8.ofNat n] else UInt8.ofNat (n % 128 + 128) :: vNf f (n / 128)
def vN (n : Nat) : List UInt8 := vNf 9 n
/-- a number is read, group by group; what can't be is told where it begins, or where the bytes end -/
def wiG (first : List UInt8) : Nat → Nat → Nat → List UInt8 → Except (List UInt8) (Nat × List UInt8)
  | 0, _, _, _ => .error first
  | _ + 1, _, _, [] => .error []
  | f + 1, k, n, b :: r => if (k = 9 ∧ 1 < b.toNat) ∨ (0 < k ∧ b.toNat = 0) then .error first else if b.toNat < 128 then .ok (n + b.toNat * 128 ^ k, r) else wiG first f (k + 1) (n + b.toNat % 128 * 128 ^ k) r
def wiN (l : List UInt8) : Except (List UInt8) (Nat × List UInt8) := wiG l 10 0 0 l
theorem wiG_ext (first first' z : List UInt8) : ∀ (f k n : Nat) (l : List UInt8) (a : Nat) (r : List UInt8), wiG first f k n l = .ok (a, r) → wiG first' f k n (l ++ z) = .ok (a, r ++ z) := by
  intro f
  induction f with
  | zero => intro k n l a r h; simp [wiG] at h
  | succ f ih =>
    intro k n l a r h
    cases l with
    | nil => simp [wiG] at h
    | cons b l =>
      rw [List.cons_append]
      unfold wiG at h ⊢
      split
      · next hc => rw [if_pos hc] at h; cases h
      · next hc =>
        rw [if_neg hc] at h
        split
        · next hb => rw [if_pos hb] at h; injection h with h; injection h with h1 h2; rw [h1, h2]
        · next hb => rw [if_neg hb] at h; exact ih _ _ _ _ _ h
theorem ofNat_toNat (n : Nat) (h : n < 256) : (UInt8.ofNat n).toNat = n := by
  rw [UInt8.toNat_ofNat']; exact Nat.mod_eq_of_lt h
theorem wiG_back (first z : List UInt8) : ∀ (f k n m : Nat), k + f = 9 → m < 2 ^ (64 - 7 * k) → (0 < k → m ≠ 0) → wiG first (f + 1) k n (vNf f m ++ z) = .ok (n + m * 128 ^ k, z) := by
  intro f
  induction f with
  | zero =>
    intro k n m hk hm h0
    have : k = 9 := by omega
    subst this
    have hm2 : m < 2 := hm
    have h1 := h0 (by omega)
    have : m = 1 := by omega
    subst this
    rfl
  | succ f ih =>
    intro k n m hk hm h0
    have h0' : 0 < k → m ≠ 0 := h0
    unfold vNf
    by_cases hs : m < 128
    · rw [if_pos hs]
      show wiG first (f + 1 + 1) k n (UInt8.ofNat m :: z) = _
      unfold wiG
      rw [ofNat_toNat m (by omega), if_neg (by omega), if_pos hs]
    · rw [if_neg hs]
      show wiG first (f + 1 + 1) k n (UInt8.ofNat (m % 128 + 128) :: (vNf f (m / 128) ++ z)) = _
      unfold wiG
      rw [ofNat_toNat _ (by omega), if_neg (by omega), if_neg (by omega)]
      have e1 : (m % 128 + 128) % 128 = m % 128 := by omega
      rw [e1]
      have hp : 2 ^ (64 - 7 * k) = 128 * 2 ^ (64 - 7 * (k + 1)) := by
        have : 64 - 7 * k = 7 + (64 - 7 * (k + 1)) := by omega
        rw [this, Nat.pow_add]
      rw [ih (k + 1) _ (m / 128) (by omega) (by rw [hp] at hm; exact Nat.div_lt_of_lt_mul hm) (by intro _; omega)]
      have e2 : m % 128 * 128 ^ k + m / 128 * 128 ^ (k + 1) = m * 128 ^ k := by
        rw [Nat.pow_succ, Nat.mul_comm (128 ^ k) 128, ← Nat.mul_assoc, ← Nat.add_mul]
        congr 1; omega
      rw [Nat.add_assoc, e2]
theorem wiG_conv (first : List UInt8) : ∀ (f k n : Nat) (l : List UInt8) (a : Nat) (r : List UInt8), k + f = 9 → wiG first (f + 1) k n l = .ok (a, r) → ∃ m, a = n + m * 128 ^ k ∧ l = vNf f m ++ r ∧ m < 2 ^ (64 - 7 * k) ∧ (0 < k → m ≠ 0) := by
  intro f
  induction f with
  | zero =>
    intro k n l a r hk h
    have : k = 9 := by omega
    subst this
    cases l with
    | nil => simp [wiG] at h
    | cons b l =>
      unfold wiG at h
      split at h
      · cases h
      · next hc =>
        split at h
        · next hb =>
          injection h with h; injection h with h1 h2
          subst h2
          refine ⟨b.toNat, h1.symm, ?_, by omega, by omega⟩
          show b :: l = UInt8.ofNat b.toNat :: l
          rw [UInt8.ofNat_toNat]
        · simp [wiG] at h
  | succ f ih =>
    intro k n l a r hk h
    cases l with
    | nil => simp [wiG] at h
    | cons b l =>
      unfold wiG at h
      split at h
      · cases h
      · next hc =>
        split at h
        · next hb =>
          injection h with h; injection h with h1 h2
          subst h2
          refine ⟨b.toNat, h1.symm, ?_, ?_, by omega⟩
          · unfold vNf
            rw [if_pos hb, UInt8.ofNat_toNat]; rfl
          · refine Nat.lt_of_lt_of_le (m := 2 ^ 8) (by omega) (Nat.pow_le_pow_right (by omega) (by omega))
        · next hb =>
          obtain ⟨m, e1, e2, e3, e4⟩ := ih (k + 1) _ l a r (by omega) h
          have h4 := e4 (by omega)
          have hb2 : b.toNat < 256 := b.toNat_lt
          have hp : 2 ^ (64 - 7 * k) = 128 * 2 ^ (64 - 7 * (k + 1)) := by
            have : 64 - 7 * k = 7 + (64 - 7 * (k + 1)) := by omega
            rw [this, Nat.pow_add]
          refine ⟨b.toNat % 128 + 128 * m, ?_, ?_, ?_, by omega⟩
          · rw [e1, Nat.add_assoc, Nat.add_mul, Nat.pow_succ, Nat.mul_comm (128 ^ k) 128, ← Nat.mul_assoc, Nat.mul_comm m 128]
          · unfold vNf
            rw [if_neg (by omega)]
            have g1 : (b.toNat % 128 + 128 * m) % 128 + 128 = b.toNat := by omega
            have g2 : (b.toNat % 128 + 128 * m) / 128 = m := by omega
            rw [g1, g2, UInt8.ofNat_toNat, e2]; rfl
          · rw [hp]; omega
theorem vN_len (f : Nat) : ∀ n, (vNf f n).length ≤ f + 1 := by
  induction f with
  | zero => intro n; simp [vNf]
  | succ f ih => intro n; unfold vNf; split; · simp
                 · have := ih (n / 128); simp; omega
/-- a signed number as one without a sign, and back -/
def unS (n : Int) : Nat := if 0 ≤ n then 2 * n.toNat else 2 * (-(n + 1)).toNat + 1
def sgN (m : Nat) : Int := if m % 2 = 1 then -((m / 2 : Nat) : Int) - 1 else ((m / 2 : Nat) : Int)
theorem sg_un (n : Int) : sgN (unS n) = n := by unfold sgN unS; split <;> split <;> omega
theorem un_sg (m : Nat) : unS (sgN m) = m := by unfold sgN unS; split <;> split <;> omega
theorem wiN_back (n : Nat) (h : n < 2 ^ 64) (z : List UInt8) : wiN (vN n ++ z) = .ok (n, z) := by
  unfold wiN vN
  rw [wiG_back _ z 9 0 0 n rfl (by simpa using h) (by omega)]
  simp
theorem wiN_conv {l : List UInt8} {a : Nat} {r : List UInt8} (h : wiN l = .ok (a, r)) : l = vN a ++ r ∧ a < 2 ^ 64 := by
  obtain ⟨m, h1, h2, h3, _⟩ := wiG_conv l 9 0 0 l a r rfl h
  have : m = a := by rw [h1]; simp
  subst this
  exact ⟨h2, by simpa using h3⟩
theorem wiN_ext {l : List UInt8} {a : Nat} {r : List UInt8} (z : List UInt8) (h : wiN l = .ok (a, r)) : wiN (l ++ z) = .ok (a, r ++ z) := wiG_ext l (l ++ z) z 10 0 0 l a r h
theorem wiN_short {l : List UInt8} {a : Nat} {r : List UInt8} (h : wiN l = .ok (a, r)) : r.length < l.length := by
  obtain ⟨h1, _⟩ := wiN_conv h
  have : 0 < (vN a).length := by unfold vN vNf; split <;> simp
  rw [h1, List.length_append]; omega
/-- a text: its bytes' number ahead -/
def txW (s : List UInt8) : List UInt8 := vN s.length ++ s
def wiT {α : Type} (az : List UInt8 → Option α) (l : List UInt8) : Except (List UInt8) (α × List UInt8) :=
  match wiN l with
  | .error r => .error r
  | .ok (n, r) => if r.length < n then .error l else match az (r.take n) with
    | none => .error l
    | some a => .ok (a, r.drop n)
theorem wiT_ext {α : Type} {az : List UInt8 → Option α} {l : List UInt8} {a : α} {r : List UInt8} (z : List UInt8) (h : wiT az l = .ok (a, r)) : wiT az (l ++ z) = .ok (a, r ++ z) := by
  unfold wiT at h ⊢
  cases hn : wiN l with
  | error e => rw [hn] at h; cases h
  | ok x =>
    obtain ⟨n, r1⟩ := x
    rw [hn] at h
    rw [wiN_ext z hn]
    simp only at h ⊢
    split at h
    · cases h
    · next hl =>
      rw [if_neg (by rw [List.length_append]; omega), List.take_append_of_le_length (by omega), List.drop_append_of_le_length (by omega)]
      split at h
      · cases h
      · next b hb => injection h with h; injection h with h1 h2; rw [h1, h2]
theorem wiT_back {α : Type} {az : List UInt8 → Option α} {s : List UInt8} {a : α} (h : az s = some a) (hs : s.length < 2 ^ 64) (z : List UInt8) : wiT az (txW s ++ z) = .ok (a, z) := by
  unfold wiT txW
  rw [List.append_assoc, wiN_back _ hs]
  simp only
  rw [if_neg (by rw [List.length_append]; omega), List.take_append_of_le_length (Nat.le_refl _), List.take_length, h, List.drop_append_of_le_length (Nat.le_refl _), List.drop_length, List.nil_append]
theorem wiT_conv {α : Type} {az : List UInt8 → Option α} {l : List UInt8} {a : α} {r : List UInt8} (h : wiT az l = .ok (a, r)) : ∃ s, az s = some a ∧ l = txW s ++ r := by
  unfold wiT at h
  cases hn : wiN l with
  | error e => rw [hn] at h; cases h
  | ok x =>
    obtain ⟨n, r1⟩ := x
    rw [hn] at h
    simp only at h
    split at h
    · cases h
    · next hl =>
      split at h
      · cases h
      · next b hb =>
        injection h with h; injection h with h1 h2
        subst h1 h2
        refine ⟨r1.take n, hb, ?_⟩
        unfold txW
        rw [List.length_take, Nat.min_eq_left (by omega), List.append_assoc, List.take_append_drop]
        exact (wiN_conv hn).1

section
variable (V : ByteArray → Bool)
def asVal (L : List UInt8) : Option ByteArray := if textZ V 0 (bs L) = 0 then some (bs L) else none
def asTy (L : List UInt8) : Option Ty := match psT L with
  | .ok t => if wrT t = L then some t else none
  | .error _ => none
def asLb (L : List UInt8) : Option ByteArray := if isNm L = true then some (bs L) else none
/-- a value: sort, number, text -/
def wiV (l : List UInt8) : Except (List UInt8) ((Int × Int × ByteArray) × List UInt8) :=
  match l with
  | [] => .error []
  | b :: r =>
    if b.toNat = 1 then (match wiN r with | .error e => .error e | .ok (n, q) => .ok ((1, sgN n, ⟨#[]⟩), q))
    else if b.toNat = 2 then (match r with | [] => .error [] | c :: q => if c.toNat ≤ 1 then .ok ((2, (c.toNat : Int), ⟨#[]⟩), q) else .error r)
    else if b.toNat = 3 then (match wiT (asVal V) r with | .error e => .error e | .ok (s, q) => .ok ((3, 0, s), q))
    else .error l
abbrev noTy : Ty := ⟨0, 0, ⟨#[]⟩, [], []⟩
def wiE (l : List UInt8) : Except (List UInt8) (Ev × List UInt8) :=
  match l with
  | [] => .error []
  | b :: r =>
    if b.toNat = 2 ∨ b.toNat = 3 then (match wiV V r with | .error e => .error e | .ok (v, q) => .ok (⟨(b.toNat : Int), v.1, v.2.1, v.2.2, noTy, ⟨#[]⟩⟩, q))
    else if b.toNat = 4 ∨ b.toNat = 5 then (match wiT asTy r with | .error e => .error e | .ok (t, q) => .ok (⟨(b.toNat : Int), 0, 0, ⟨#[]⟩, t, ⟨#[]⟩⟩, q))
    else if b.toNat = 6 ∨ b.toNat = 7 then (match wiT asLb r with | .error e => .error e | .ok (s, q) => .ok (⟨(b.toNat : Int), 0, 0, ⟨#[]⟩, noTy, s⟩, q))
    else .error l
theorem wiV_cons (b : UInt8) (r : List UInt8) : wiV V (b :: r) = if b.toNat = 1 then (match wiN r with | .error e => .error e | .ok (n, q) => .ok ((1, sgN n, ⟨#[]⟩), q))
    else if b.toNat = 2 then (match r with | [] => .error [] | c :: q => if c.toNat ≤ 1 then .ok ((2, (c.toNat : Int), ⟨#[]⟩), q) else .error r)
    else if b.toNat = 3 then (match wiT (asVal V) r with | .error e => .error e | .ok (s, q) => .ok ((3, 0, s), q))
    else .error (b :: r) := rfl
theorem wiE_cons (b : UInt8) (r : List UInt8) : wiE V (b :: r) = if b.toNat = 2 ∨ b.toNat = 3 then (match wiV V r with | .error e => .error e | .ok (v, q) => .ok (⟨(b.toNat : Int), v.1, v.2.1, v.2.2, noTy, ⟨#[]⟩⟩, q))
    else if b.toNat = 4 ∨ b.toNat = 5 then (match wiT asTy r with | .error e => .error e | .ok (t, q) => .ok (⟨(b.toNat : Int), 0, 0, ⟨#[]⟩, t, ⟨#[]⟩⟩, q))
    else if b.toNat = 6 ∨ b.toNat = 7 then (match wiT asLb r with | .error e => .error e | .ok (s, q) => .ok (⟨(b.toNat : Int), 0, 0, ⟨#[]⟩, noTy, s⟩, q))
    else .error (b :: r) := rfl
/-- events, so many at most: the error, what is left where it is -/
def wiL : Nat → List UInt8 → Except (Int × List UInt8) (List Ev)
  | _, [] => .ok []
  | 0, b :: r => .error (2, b :: r)
  | k + 1, b :: r => match wiE V (b :: r) with
    | .error e => .error (3, e)
    | .ok (x, q) => match wiL k q with
      | .error e => .error e
      | .ok xs => .ok (x :: xs)
def wrV (so n : Int) (s : ByteArray) : List UInt8 := UInt8.ofNat so.toNat :: (if so = 1 then vN (unS n) else if so = 2 then [UInt8.ofNat n.toNat] else if so = 3 then txW s.data.toList else [])
/-- what is written of an event -/
def wrE (x : Ev) : List UInt8 := UInt8.ofNat x.kind.toNat :: (if x.kind = 2 ∨ x.kind = 3 then wrV x.so x.n x.s else if x.kind = 4 ∨ x.kind = 5 then txW (wrT x.carry) else if x.kind = 6 ∨ x.kind = 7 then txW x.label.data.toList else [])
/-- what is wrong with an event -/
def weZ (x : Ev) : Int := if x.kind = 2 ∨ x.kind = 3 then chkZ V x.so x.n x.s else if x.kind = 4 ∨ x.kind = 5 then chkTy x.carry else if x.kind = 6 ∨ x.kind = 7 then (if isNm x.label.data.toList = true then 0 else 1) else 1
/-- an event with nothing in it that its kind does not use -/
def bareV (x : Ev) : Ev := if x.kind = 2 ∨ x.kind = 3 then ⟨x.kind, x.so, x.n, x.s, noTy, ⟨#[]⟩⟩ else if x.kind = 4 ∨ x.kind = 5 then ⟨x.kind, 0, 0, ⟨#[]⟩, x.carry, ⟨#[]⟩⟩ else ⟨x.kind, 0, 0, ⟨#[]⟩, noTy, x.label⟩
theorem wiV_ext {l : List UInt8} {a : Int × Int × ByteArray} {r : List UInt8} (z : List UInt8) (h : wiV V l = .ok (a, r)) : wiV V (l ++ z) = .ok (a, r ++ z) := by
  cases l with
  | nil => cases h
  | cons b l =>
    rw [List.cons_append]
    unfold wiV at h ⊢
    simp only at h ⊢
    split
    · next hb =>
      rw [if_pos hb] at h
      cases hn : wiN l with
      | error e => rw [hn] at h; cases h
      | ok x => obtain ⟨n, q⟩ := x; rw [hn] at h; rw [wiN_ext z hn]; simp only at h ⊢; injection h with h; injection h with h1 h2; rw [h1, h2]
    · next hb =>
      rw [if_neg hb] at h
      split
      · next hc =>
        rw [if_pos hc] at h
        cases l with
        | nil => cases h
        | cons c l =>
          rw [List.cons_append]
          simp only at h ⊢
          split
          · next hd => rw [if_pos hd] at h; injection h with h; injection h with h1 h2; rw [h1, h2]
          · next hd => rw [if_neg hd] at h; cases h
      · next hc =>
        rw [if_neg hc] at h
        split
        · next hd =>
          rw [if_pos hd] at h
          cases hn : wiT (asVal V) l with
          | error e => rw [hn] at h; cases h
          | ok x => obtain ⟨n, q⟩ := x; rw [hn] at h; rw [wiT_ext z hn]; simp only at h ⊢; injection h with h; injection h with h1 h2; rw [h1, h2]
        · next hd => rw [if_neg hd] at h; cases h
theorem wiE_ext {l : List UInt8} {x : Ev} {r : List UInt8} (z : List UInt8) (h : wiE V l = .ok (x, r)) : wiE V (l ++ z) = .ok (x, r ++ z) := by
  cases l with
  | nil => cases h
  | cons b l =>
    rw [List.cons_append]
    unfold wiE at h ⊢
    simp only at h ⊢
    split
    · next hb =>
      rw [if_pos hb] at h
      cases hn : wiV V l with
      | error e => rw [hn] at h; cases h
      | ok x => obtain ⟨n, q⟩ := x; rw [hn] at h; rw [wiV_ext V z hn]; simp only at h ⊢; injection h with h; injection h with h1 h2; rw [h1, h2]
    · next hb =>
      rw [if_neg hb] at h
      split
      · next hc =>
        rw [if_pos hc] at h
        cases hn : wiT asTy l with
        | error e => rw [hn] at h; cases h
        | ok x => obtain ⟨n, q⟩ := x; rw [hn] at h; rw [wiT_ext z hn]; simp only at h ⊢; injection h with h; injection h with h1 h2; rw [h1, h2]
      · next hc =>
        rw [if_neg hc] at h
        split
        · next hd =>
          rw [if_pos hd] at h
          cases hn : wiT asLb l with
          | error e => rw [hn] at h; cases h
          | ok x => obtain ⟨n, q⟩ := x; rw [hn] at h; rw [wiT_ext z hn]; simp only at h ⊢; injection h with h; injection h with h1 h2; rw [h1, h2]
        · next hd => rw [if_neg hd] at h; cases h
theorem textZ_ok {n : Int} {s : ByteArray} (h : textZ V n s = 0) : n = 0 ∧ s.size ≤ 100 ∧ V s = true := by
  unfold textZ at h
  split at h
  · omega
  · next hn =>
    split at h
    · omega
    · next hs =>
      refine ⟨by omega, by omega, ?_⟩
      unfold argZ at h
      split at h
      · next hv => exact hv
      · omega
theorem empty_ba {s : ByteArray} (h : s.toList.isEmpty = true) : s = ⟨#[]⟩ := by
  rw [ByteArray.toList_eq, List.isEmpty_iff] at h
  apply ByteArray.ext
  exact Array.toList_inj.1 h
theorem bs_data (s : ByteArray) : bs s.data.toList = s := by
  apply ByteArray.ext
  unfold bs
  simp
/-- the ways of a value that is right -/
theorem chk_ways {so n : Int} {s : ByteArray} (h : chkZ V so n s = 0) : (so = 1 ∧ s = ⟨#[]⟩) ∨ (so = 2 ∧ s = ⟨#[]⟩ ∧ (n = 0 ∨ n = 1)) ∨ (so = 3 ∧ n = 0 ∧ s.size ≤ 100 ∧ textZ V 0 s = 0) := by
  unfold chkZ at h
  split at h
  · next h1 => unfold argZ at h; split at h; · next hs => exact .inl ⟨h1, empty_ba hs⟩
               · omega
  · split at h
    · next h2 =>
      unfold argZ at h
      split at h
      · next hs =>
        simp only [Bool.and_eq_true, Bool.or_eq_true, beq_iff_eq] at hs
        exact .inr (.inl ⟨h2, empty_ba hs.1, hs.2⟩)
      · omega
    · split at h
      · next h3 => obtain ⟨h4, h5, h6⟩ := textZ_ok V h; subst h4; exact .inr (.inr ⟨h3, rfl, h5, h⟩)
      · omega
theorem chk_one (n : Int) : chkZ V 1 n ⟨#[]⟩ = 0 := by unfold chkZ; rw [if_pos rfl]; rw [ByteArray.toList_eq]; rfl
theorem chk_two (n : Int) (h : n = 0 ∨ n = 1) : chkZ V 2 n ⟨#[]⟩ = 0 := by unfold chkZ; rw [if_neg (by omega), if_pos rfl]; rw [ByteArray.toList_eq]; rcases h with rfl | rfl <;> rfl
theorem chk_three (s : ByteArray) (h : textZ V 0 s = 0) : chkZ V 3 0 s = 0 := by unfold chkZ; rw [if_neg (by omega), if_neg (by omega), if_pos rfl]; exact h
theorem unS_lt (n : Int) (h : -9223372036854775808 ≤ n ∧ n ≤ 9223372036854775807) : unS n < 2 ^ 64 := by unfold unS; split <;> omega
theorem wiV_back {so n : Int} {s : ByteArray} (h : chkZ V so n s = 0) (hn : -9223372036854775808 ≤ n ∧ n ≤ 9223372036854775807) (z : List UInt8) : wiV V (wrV so n s ++ z) = .ok ((so, n, s), z) := by
  rcases chk_ways V h with ⟨rfl, rfl⟩ | ⟨rfl, rfl, h0⟩ | ⟨rfl, rfl, h1, h2⟩
  · show wiV V (1 :: (vN (unS n) ++ z)) = _
    rw [wiV_cons]
    rw [if_pos (by decide), wiN_back _ (unS_lt n hn)]
    simp only
    rw [sg_un]
  · show wiV V (2 :: UInt8.ofNat n.toNat :: z) = _
    rw [wiV_cons]
    rw [if_neg (by decide), if_pos (by decide)]
    simp only
    rcases h0 with rfl | rfl <;> rfl
  · show wiV V (3 :: (txW s.data.toList ++ z)) = _
    rw [wiV_cons]
    rw [if_neg (by decide), if_neg (by decide), if_pos (by decide), wiT_back (a := s) (by unfold asVal; rw [bs_data, if_pos h2]) (by have : s.size = s.data.toList.length := (by simp); omega)]
theorem nm_len (L : List UInt8) (h : isNm L = true) : L.length ≤ 8 := nm_len8 L h
theorem wiE_back {x : Ev} (h : weZ V x = 0) (hn : -9223372036854775808 ≤ x.n ∧ x.n ≤ 9223372036854775807) (z : List UInt8) : wiE V (wrE x ++ z) = .ok (bareV x, z) := by
  obtain ⟨kd, so, n, s, t, lb⟩ := x
  unfold weZ at h
  simp only at h hn
  unfold wrE bareV
  simp only
  by_cases h1 : kd = 2 ∨ kd = 3
  · rw [if_pos h1] at h ⊢
    rw [if_pos h1]
    rcases h1 with rfl | rfl
    · show wiE V (2 :: (wrV so n s ++ z)) = _
      rw [wiE_cons]
      rw [if_pos (by decide), wiV_back V h hn]; rfl
    · show wiE V (3 :: (wrV so n s ++ z)) = _
      rw [wiE_cons]
      rw [if_pos (by decide), wiV_back V h hn]; rfl
  rw [if_neg h1] at h ⊢
  rw [if_neg h1]
  by_cases h2 : kd = 4 ∨ kd = 5
  · rw [if_pos h2] at h ⊢
    rw [if_pos h2]
    have e : asTy (wrT t) = some t := by unfold asTy; rw [ps_full t h]; show (if wrT t = wrT t then some t else none) = some t; rw [if_pos rfl]
    have hl : (wrT t).length < 2 ^ 64 := by obtain ⟨hw, hs⟩ := chkTy_good t h; have := wrT_short t hw; omega
    rcases h2 with rfl | rfl
    · show wiE V (4 :: (txW (wrT t) ++ z)) = _
      rw [wiE_cons]
      rw [if_neg (by decide), if_pos (by decide), wiT_back e hl]; rfl
    · show wiE V (5 :: (txW (wrT t) ++ z)) = _
      rw [wiE_cons]
      rw [if_neg (by decide), if_pos (by decide), wiT_back e hl]; rfl
  rw [if_neg h2] at h ⊢
  rw [if_neg h2]
  by_cases h3 : kd = 6 ∨ kd = 7
  · rw [if_pos h3] at h ⊢
    have hnm : isNm lb.data.toList = true := by
      cases hq : isNm lb.data.toList
      · rw [hq] at h; simp at h
      · rfl
    have e : asLb lb.data.toList = some lb := by unfold asLb; rw [if_pos hnm, bs_data]
    have hl : lb.data.toList.length < 2 ^ 64 := by have := nm_len _ hnm; omega
    rcases h3 with rfl | rfl
    · show wiE V (6 :: (txW lb.data.toList ++ z)) = _
      rw [wiE_cons]
      rw [if_neg (by decide), if_neg (by decide), if_pos (by decide), wiT_back e hl]; rfl
    · show wiE V (7 :: (txW lb.data.toList ++ z)) = _
      rw [wiE_cons]
      rw [if_neg (by decide), if_neg (by decide), if_pos (by decide), wiT_back e hl]; rfl
  rw [if_neg h3] at h
  omega
theorem u8_nat (b : UInt8) : UInt8.ofNat ((b.toNat : Int)).toNat = b := by rw [Int.toNat_natCast, UInt8.ofNat_toNat]
theorem sgN_in (m : Nat) (h : m < 2 ^ 64) : -9223372036854775808 ≤ sgN m ∧ sgN m ≤ 9223372036854775807 := by unfold sgN; split <;> omega
theorem wiV_conv {l : List UInt8} {a : Int × Int × ByteArray} {r : List UInt8} (h : wiV V l = .ok (a, r)) : chkZ V a.1 a.2.1 a.2.2 = 0 ∧ l = wrV a.1 a.2.1 a.2.2 ++ r ∧ (-9223372036854775808 ≤ a.2.1 ∧ a.2.1 ≤ 9223372036854775807) ∧ a.2.2.size ≤ 100 := by
  cases l with
  | nil => cases h
  | cons b l =>
    unfold wiV at h
    simp only at h
    split at h
    · next hb =>
      cases hn : wiN l with
      | error e => rw [hn] at h; cases h
      | ok x =>
        obtain ⟨n, q⟩ := x; rw [hn] at h; simp only at h; injection h with h; injection h with h1 h2
        subst h1 h2
        obtain ⟨e1, e2⟩ := wiN_conv hn
        refine ⟨chk_one V _, ?_, sgN_in _ e2, by show (0 : Nat) ≤ 100; omega⟩
        have : b = 1 := UInt8.toNat_inj.1 hb
        show b :: l = 1 :: (vN (unS (sgN n)) ++ q)
        rw [un_sg, ← e1, this]
    · next hb =>
      split at h
      · next hc =>
        cases l with
        | nil => cases h
        | cons c l =>
          simp only at h
          split at h
          · next hd =>
            injection h with h; injection h with h1 h2
            subst h1 h2
            refine ⟨chk_two V _ (by simp only; omega), ?_, by simp only; omega, by show (0 : Nat) ≤ 100; omega⟩
            have : b = 2 := UInt8.toNat_inj.1 hc
            show b :: c :: l = 2 :: UInt8.ofNat ((c.toNat : Int)).toNat :: l
            rw [u8_nat, this]
          · cases h
      · next hc =>
        split at h
        · next hd =>
          cases hn : wiT (asVal V) l with
          | error e => rw [hn] at h; cases h
          | ok x =>
            obtain ⟨s, q⟩ := x; rw [hn] at h; simp only at h; injection h with h; injection h with h1 h2
            subst h1 h2
            obtain ⟨s', e1, e2⟩ := wiT_conv hn
            unfold asVal at e1
            split at e1
            · next hz =>
              injection e1 with e1
              subst e1
              refine ⟨chk_three V _ hz, ?_, by simp only; omega, (textZ_ok V hz).2.1⟩
              have : b = 3 := UInt8.toNat_inj.1 hd
              show b :: l = 3 :: (txW (bs s').data.toList ++ q)
              rw [bs_list, ← e2, this]
            · cases e1
        · cases h
/-- what an event that has been read is -/
theorem wiE_conv {l : List UInt8} {x : Ev} {r : List UInt8} (h : wiE V l = .ok (x, r)) : weZ V x = 0 ∧ l = wrE x ++ r ∧ (-9223372036854775808 ≤ x.n ∧ x.n ≤ 9223372036854775807) ∧ x.s.size ≤ 100 := by
  cases l with
  | nil => cases h
  | cons b l =>
    unfold wiE at h
    simp only at h
    split at h
    · next hb =>
      cases hn : wiV V l with
      | error e => rw [hn] at h; cases h
      | ok y =>
        obtain ⟨v, q⟩ := y; rw [hn] at h; simp only at h; injection h with h; injection h with h1 h2
        subst h1 h2
        obtain ⟨e1, e2, e3, e4⟩ := wiV_conv V hn
        have hk : (b.toNat : Int) = 2 ∨ (b.toNat : Int) = 3 := by omega
        refine ⟨?_, ?_, e3, e4⟩
        · unfold weZ; simp only; rw [if_pos hk]; exact e1
        · unfold wrE; simp only; rw [if_pos hk, u8_nat, e2]; rfl
    · next hb =>
      split at h
      · next hc =>
        cases hn : wiT asTy l with
        | error e => rw [hn] at h; cases h
        | ok y =>
          obtain ⟨t, q⟩ := y; rw [hn] at h; simp only at h; injection h with h; injection h with h1 h2
          subst h1 h2
          obtain ⟨s', e1, e2⟩ := wiT_conv hn
          have hk1 : ¬ ((b.toNat : Int) = 2 ∨ (b.toNat : Int) = 3) := by omega
          have hk : (b.toNat : Int) = 4 ∨ (b.toNat : Int) = 5 := by omega
          unfold asTy at e1
          split at e1
          · next t' ht =>
            split at e1
            · next hw =>
              injection e1 with e1
              subst e1
              refine ⟨?_, ?_, by simp only; omega, by show (0 : Nat) ≤ 100; omega⟩
              · unfold weZ; simp only; rw [if_neg hk1, if_pos hk]; exact (ps_ok _ _ ht).1
              · unfold wrE; simp only; rw [if_neg hk1, if_pos hk, u8_nat, hw, e2]; rfl
            · cases e1
          · cases e1
      · next hc =>
        split at h
        · next hd =>
          cases hn : wiT asLb l with
          | error e => rw [hn] at h; cases h
          | ok y =>
            obtain ⟨t, q⟩ := y; rw [hn] at h; simp only at h; injection h with h; injection h with h1 h2
            subst h1 h2
            obtain ⟨s', e1, e2⟩ := wiT_conv hn
            have hk1 : ¬ ((b.toNat : Int) = 2 ∨ (b.toNat : Int) = 3) := by omega
            have hk2 : ¬ ((b.toNat : Int) = 4 ∨ (b.toNat : Int) = 5) := by omega
            have hk : (b.toNat : Int) = 6 ∨ (b.toNat : Int) = 7 := by omega
            unfold asLb at e1
            split at e1
            · next hz =>
              injection e1 with e1
              subst e1
              refine ⟨?_, ?_, by simp only; omega, by show (0 : Nat) ≤ 100; omega⟩
              · unfold weZ; simp only; rw [if_neg hk1, if_neg hk2, if_pos hk, bs_list, if_pos hz]
              · unfold wrE; simp only; rw [if_neg hk1, if_neg hk2, if_pos hk, u8_nat, bs_list, e2]; rfl
            · cases e1
        · cases h
end
end Go.Proofs.YtefdekfgmbgbbaaGreatDoor
