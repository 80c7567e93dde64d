/- DERIVED. The calendar in whole numbers: the days before a year and a month, the reference's way back from a day to its date, and that the two belong together from 1970 to 2199 (checked case by case by the kernel). No condition but the years that each theorem names. -/
namespace Go.Proofs.YtfgekmfkaepgjaaDoor.Cal
def allB (f : Nat → Bool) : Nat → Bool
  | 0 => true
  | n + 1 => cond (f n) (allB f n) false
theorem allB_at {f : Nat → Bool} : ∀ {n : Nat}, allB f n = true → ∀ i, i < n → f i = true
  | 0, _, i, h => absurd h (Nat.not_lt_zero i)
  | n + 1, h, i, hi => by
    unfold allB at h
    cases hf : f n with
    | false => simp [hf] at h
    | true =>
      simp [hf] at h
      by_cases e : i = n
      · subst e; exact hf
      · exact allB_at h i (by omega)
def frc (n : Nat) (f : Nat → Bool) : Bool := match n with | 0 => f 0 | k + 1 => f (Nat.succ k)
theorem frc_eq (n : Nat) (f : Nat → Bool) : frc n f = f n := by cases n <;> rfl
theorem cond_and {a b : Bool} (h : cond a b false = true) : a = true ∧ b = true := by cases a <;> simp_all
/-- The year of a day in a row of 400 years, counted from the 1st of March of the year 0 on. -/
def vN (r : Nat) : Nat := Nat.div (Nat.sub (Nat.add (Nat.sub r (Nat.div r 1460)) (Nat.div r 36524)) (Nat.div r 146096)) 365
def bN (v : Nat) : Nat := Nat.sub (Nat.add (Nat.mul 365 v) (Nat.div v 4)) (Nat.div v 100)
def mmN (dd : Nat) : Nat := Nat.div (Nat.add (Nat.mul 5 dd) 2) 153
def kkN (dd m : Nat) : Nat := Nat.add (Nat.sub dd (Nat.div (Nat.add (Nat.mul 153 m) 2) 5)) 1
/-- Of the day n: f at year, month, number. -/
def atN (n : Nat) (f : Nat → Nat → Nat → Bool) : Bool :=
  frc (Nat.div n 146097) fun row => frc (Nat.mod n 146097) fun r => frc (vN r) fun v => cond (Nat.ble (bN v) r) (frc (Nat.sub r (bN v)) fun dd => frc (mmN dd) fun m => frc (kkN dd m) fun k =>
    cond (Nat.ble 10 m) (f (Nat.add (Nat.add (Nat.mul 400 row) v) 1) (Nat.sub m 9) k) (f (Nat.add (Nat.mul 400 row) v) (Nat.add m 3) k)) false
def lpN (y : Nat) : Nat := cond (Nat.beq (Nat.mod y 4) 0) (cond (Nat.beq (Nat.mod y 100) 0) (cond (Nat.beq (Nat.mod y 400) 0) 1 0) 1) 0
def firstN (y : Nat) : Nat := Nat.add (Nat.add (Nat.sub (Nat.add (Nat.mul 365 (Nat.sub y 1)) (Nat.div (Nat.sub y 1) 4)) (Nat.div (Nat.sub y 1) 100)) (Nat.div (Nat.sub y 1) 400)) 306
def cumN (m : Nat) : Nat := match m with | 0 => 0 | 1 => 0 | 2 => 31 | 3 => 59 | 4 => 90 | 5 => 120 | 6 => 151 | 7 => 181 | 8 => 212 | 9 => 243 | 10 => 273 | 11 => 304 | 12 => 334 | _ => 365
def dimN (lp m : Nat) : Nat := match m with | 2 => Nat.add 28 lp | 4 => 30 | 6 => 30 | 9 => 30 | 11 => 30 | _ => 31
def checkA (y m : Nat) : Bool :=
  frc (lpN y) fun lp => frc (Nat.add (firstN y) (Nat.add (cumN m) (cond (Nat.ble 3 m) lp 0))) fun n0 => frc (dimN lp m) fun dim =>
    allB (fun i => atN (Nat.add n0 i) fun y' m' k' => cond (Nat.ble (Nat.succ i) dim) (cond (Nat.beq y' y) (cond (Nat.beq m' m) (Nat.beq k' (Nat.succ i)) false) false) (cond (Nat.beq k' (Nat.succ i)) false true)) 31
def checkB (y m : Nat) : Bool :=
  frc (lpN y) fun lp => frc (Nat.add (firstN y) (Nat.add (cumN m) (cond (Nat.ble 3 m) lp 0))) fun n0 => atN n0 fun y' m' _ => cond (Nat.beq y' y) (Nat.beq m' m) false
theorem checkedA : allB (fun i => frc (Nat.add 1970 i) fun y => allB (fun j => checkA y (Nat.succ j)) 12) 230 = true := by decide +kernel
theorem checkedB : allB (fun i => frc (Nat.add 1715 i) fun y => allB (fun j => checkB y (Nat.succ j)) 12) 740 = true := by decide +kernel

/-- The number of the first day of a year, from 2001 on. -/
def yearDay (y : Int) : Int := 365 * (y - 2001) + (y - 2001) / 4 - (y - 2001) / 100 + (y - 2001) / 400
def leapB (y : Int) : Bool := decide (y % 4 = 0 ∧ (y % 100 ≠ 0 ∨ y % 400 = 0))
def lp (y : Int) : Int := if y % 4 = 0 ∧ (y % 100 ≠ 0 ∨ y % 400 = 0) then 1 else 0
theorem lp_leap (y : Int) : lp y = if leapB y = true then 1 else 0 := by unfold lp leapB; simp only [decide_eq_true_eq]
theorem lp_01 (y : Int) : 0 ≤ lp y ∧ lp y ≤ 1 := by unfold lp; split <;> omega
theorem yearDay_succ (y : Int) : yearDay (y + 1) = yearDay y + 365 + lp y := by unfold yearDay lp; split <;> omega
theorem yearDay_1970 : yearDay 1970 = -11323 := by decide
theorem yearDay_2200 : yearDay 2200 = 72683 := by decide
theorem yearDay_mono (a b : Int) (h : a ≤ b) : yearDay a ≤ yearDay b := by unfold yearDay; omega
theorem yearDay_bd (y : Int) (h0 : 0 ≤ y) (h1 : y ≤ 10000) : -800000 ≤ yearDay y ∧ yearDay y ≤ 3000000 := by unfold yearDay; omega
/-- The days before a month in a year of 365 days. -/
def cum (m : Int) : Int := if m ≤ 1 then 0 else if m ≤ 2 then 31 else if m ≤ 3 then 59 else if m ≤ 4 then 90 else if m ≤ 5 then 120 else if m ≤ 6 then 151 else if m ≤ 7 then 181 else if m ≤ 8 then 212 else if m ≤ 9 then 243 else if m ≤ 10 then 273 else if m ≤ 11 then 304 else if m ≤ 12 then 334 else 365
def cumL (y m : Int) : Int := cum m + if 2 < m then lp y else 0
def dim (y m : Int) : Int := if m = 2 then 28 + lp y else if m = 4 ∨ m = 6 ∨ m = 9 ∨ m = 11 then 30 else 31
theorem dim_bd (y m : Int) : 28 ≤ dim y m ∧ dim y m ≤ 31 := by have := lp_01 y; unfold dim; split <;> (try split) <;> omega
theorem cumL_bd (y m : Int) : 0 ≤ cumL y m ∧ cumL y m ≤ 366 := by
  have h1 := lp_01 y
  have h2 : 0 ≤ cum m ∧ cum m ≤ 365 := by unfold cum; repeat' split <;> omega
  unfold cumL
  split <;> omega
theorem cumL_1 (y : Int) : cumL y 1 = 0 := by simp [cumL, cum]
theorem cumL_13 (y : Int) : cumL y 13 = 365 + lp y := by simp [cumL, cum]
theorem cumL_succ (y m : Int) (h1 : 1 ≤ m) (h2 : m ≤ 12) : cumL y (m + 1) = cumL y m + dim y m := by
  have h : m = 1 ∨ m = 2 ∨ m = 3 ∨ m = 4 ∨ m = 5 ∨ m = 6 ∨ m = 7 ∨ m = 8 ∨ m = 9 ∨ m = 10 ∨ m = 11 ∨ m = 12 := by omega
  rcases h with rfl | rfl | rfl | rfl | rfl | rfl | rfl | rfl | rfl | rfl | rfl | rfl <;> simp [cumL, cum, dim] <;> omega
/-- The number of a date, from 2001 on. -/
def rd (y m k : Int) : Int := yearDay y + cumL y m + k - 1
theorem rd_next (y m : Int) (h1 : 1 ≤ m) (h2 : m ≤ 11) : rd y (m + 1) 1 = rd y m 1 + dim y m := by
  unfold rd; rw [cumL_succ y m h1 (by omega)]; omega
theorem rd_year (y : Int) : rd (y + 1) 1 1 = rd y 12 1 + dim y 12 := by
  unfold rd
  have h := cumL_succ y 12 (by omega) (by omega)
  have h13 : cumL y (12 + 1) = 365 + lp y := cumL_13 y
  rw [yearDay_succ, cumL_1]; omega

/-- The way back, as the reference goes it. -/
def pr (d : Int) : Int := d + 730791 - 146097 * ((d + 730791) / 146097)
def pv (d : Int) : Int := (pr d - pr d / 1460 + pr d / 36524 - pr d / 146096) / 365
def pd (d : Int) : Int := pr d - (365 * pv d + pv d / 4 - pv d / 100)
def pq (d : Int) : Int := (5 * pd d + 2) / 153
def pk (d : Int) : Int := pd d - (153 * pq d + 2) / 5 + 1
def py (d : Int) : Int := if 9 < pq d then 400 * ((d + 730791) / 146097) + pv d + 1 else 400 * ((d + 730791) / 146097) + pv d
def pm (d : Int) : Int := if 9 < pq d then pq d - 9 else pq d + 3
theorem atN_at {n : Nat} {f : Nat → Nat → Nat → Bool} (h : atN n f = true) : ∃ y m k : Nat, f y m k = true ∧ py ((n : Int) - 730791) = y ∧ pm ((n : Int) - 730791) = m ∧ pk ((n : Int) - 730791) = k := by
  unfold atN at h
  simp only [frc_eq] at h
  obtain ⟨h1, h2⟩ := cond_and h
  have e0 : ((n : Int) - 730791 + 730791) / 146097 = ((Nat.div n 146097 : Nat) : Int) := by show _ = ((n / 146097 : Nat) : Int); omega
  have er : pr ((n : Int) - 730791) = ((Nat.mod n 146097 : Nat) : Int) := by unfold pr; show _ = ((n % 146097 : Nat) : Int); omega
  generalize hr : Nat.mod n 146097 = r at *
  have ev : pv ((n : Int) - 730791) = ((vN r : Nat) : Int) := by
    unfold pv; rw [er]
    show _ = (((r - r / 1460 + r / 36524 - r / 146096) / 365 : Nat) : Int)
    omega
  generalize hv : vN r = v at *
  have hb : bN v ≤ r := Nat.le_of_ble_eq_true h1
  have ed : pd ((n : Int) - 730791) = ((Nat.sub r (bN v) : Nat) : Int) := by
    unfold pd; rw [er, ev]
    have hbv : bN v = 365 * v + v / 4 - v / 100 := rfl
    show _ = ((r - bN v : Nat) : Int)
    omega
  generalize hd : Nat.sub r (bN v) = dd at *
  have eq : pq ((n : Int) - 730791) = ((mmN dd : Nat) : Int) := by
    unfold pq; rw [ed]
    show _ = (((5 * dd + 2) / 153 : Nat) : Int)
    omega
  have hmm : mmN dd = (5 * dd + 2) / 153 := rfl
  generalize hm : mmN dd = m at *
  have ek : pk ((n : Int) - 730791) = ((kkN dd m : Nat) : Int) := by
    unfold pk; rw [ed, eq]
    show _ = ((dd - (153 * m + 2) / 5 + 1 : Nat) : Int)
    omega
  cases hc : Nat.ble 10 m with
  | true =>
    rw [hc] at h2
    have h10 : 10 ≤ m := Nat.le_of_ble_eq_true hc
    refine ⟨_, _, _, h2, ?_, ?_, ek⟩
    · unfold py; rw [eq, if_pos (by omega), e0, ev]
      show _ = ((400 * (Nat.div n 146097) + v + 1 : Nat) : Int)
      omega
    · unfold pm; rw [eq, if_pos (by omega)]
      show _ = ((m - 9 : Nat) : Int)
      omega
  | false =>
    rw [hc] at h2
    have h10 : ¬ 10 ≤ m := fun hh => by rw [Nat.ble_eq_true_of_le hh] at hc; cases hc
    refine ⟨_, _, _, h2, ?_, ?_, ek⟩
    · unfold py; rw [eq, if_neg (by omega), e0, ev]
      show _ = ((400 * (Nat.div n 146097) + v : Nat) : Int)
      omega
    · unfold pm; rw [eq, if_neg (by omega)]
      show _ = ((m + 3 : Nat) : Int)
      omega
theorem nbeq {a b : Nat} (h : ¬ a = b) : Nat.beq a b = false := by
  cases e : Nat.beq a b with
  | false => rfl
  | true => exact absurd (Nat.eq_of_beq_eq_true e) h
theorem lpN_eq (y : Nat) : ((lpN y : Nat) : Int) = lp y := by
  unfold lp lpN
  have a : Nat.mod y 4 = y % 4 := rfl
  have b : Nat.mod y 100 = y % 100 := rfl
  have c : Nat.mod y 400 = y % 400 := rfl
  rw [a, b, c]
  by_cases h4 : y % 4 = 0
  · by_cases h1 : y % 100 = 0
    · by_cases h3 : y % 400 = 0
      · rw [h4, h1, h3, if_pos (by omega)]; rfl
      · rw [h4, h1, if_neg (by omega), nbeq h3]; rfl
    · rw [h4, if_pos (by omega), nbeq h1]; rfl
  · rw [if_neg (by omega), nbeq h4]; rfl
theorem firstN_eq (y : Nat) (h : 1 ≤ y) : ((firstN y : Nat) : Int) = yearDay y + 730791 := by
  unfold yearDay
  have e : firstN y = 365 * (y - 1) + (y - 1) / 4 - (y - 1) / 100 + (y - 1) / 400 + 306 := rfl
  rw [e]; omega
theorem start_eq (y m : Nat) (hy : 1 ≤ y) (h1 : 1 ≤ m) (h2 : m ≤ 12) : ((Nat.add (firstN y) (Nat.add (cumN m) (cond (Nat.ble 3 m) (lpN y) 0)) : Nat) : Int) = rd y m 1 + 730791 ∧ ((dimN (lpN y) m : Nat) : Int) = dim y m := by
  have a : ∀ p q : Nat, Nat.add p q = p + q := fun _ _ => rfl
  have b : ∀ k, Nat.ble 3 k = decide (3 ≤ k) := fun k => by rw [Bool.eq_iff_iff]; simp
  have hf := firstN_eq y hy
  have hl := lpN_eq y
  have h : m = 1 ∨ m = 2 ∨ m = 3 ∨ m = 4 ∨ m = 5 ∨ m = 6 ∨ m = 7 ∨ m = 8 ∨ m = 9 ∨ m = 10 ∨ m = 11 ∨ m = 12 := by omega
  unfold rd
  rw [a, a]
  rcases h with rfl | rfl | rfl | rfl | rfl | rfl | rfl | rfl | rfl | rfl | rfl | rfl <;> simp [cumL, cum, dim, cumN, dimN, b] <;> omega
/-- From 1970 to 2199 the way back gives each day's date, and no number that the month has not. -/
theorem parts_of (y m k : Nat) (h0 : 1970 ≤ y) (h1 : y ≤ 2199) (h2 : 1 ≤ m) (h3 : m ≤ 12) (h4 : 1 ≤ k) (h5 : k ≤ 31) :
    ((k : Int) ≤ dim y m → py (rd y m k) = y ∧ pm (rd y m k) = m ∧ pk (rd y m k) = k) ∧ (dim y m < k → pk (rd y m k) ≠ k) := by
  have hA := allB_at checkedA (y - 1970) (by omega)
  rw [frc_eq, show Nat.add 1970 (y - 1970) = y by show 1970 + (y - 1970) = y; omega] at hA
  have hB := allB_at hA (m - 1) (by omega)
  rw [show Nat.succ (m - 1) = m by omega] at hB
  unfold checkA at hB
  simp only [frc_eq] at hB
  have hC := allB_at hB (k - 1) (by omega)
  obtain ⟨e1, e2⟩ := start_eq y m (by omega) h2 h3
  obtain ⟨y', m', k', hf, hy, hm, hk⟩ := atN_at hC
  have en : ((Nat.add (Nat.add (firstN y) (Nat.add (cumN m) (cond (Nat.ble 3 m) (lpN y) 0))) (k - 1) : Nat) : Int) - 730791 = rd y m k := by
    generalize Nat.add (firstN y) (Nat.add (cumN m) (cond (Nat.ble 3 m) (lpN y) 0)) = z at *
    show ((z + (k - 1) : Nat) : Int) - 730791 = _
    have : rd y m k = rd y m 1 + k - 1 := by unfold rd; omega
    omega
  rw [en] at hy hm hk
  rw [show Nat.succ (k - 1) = k by omega] at hf
  rw [← e2]
  cases hc : Nat.ble k (dimN (lpN y) m) with
  | true =>
    rw [hc] at hf
    obtain ⟨g1, g2⟩ := cond_and hf
    obtain ⟨g2, g3⟩ := cond_and g2
    have := Nat.eq_of_beq_eq_true g1
    have := Nat.eq_of_beq_eq_true g2
    have := Nat.eq_of_beq_eq_true g3
    have := Nat.le_of_ble_eq_true hc
    exact ⟨fun _ => ⟨by omega, by omega, by omega⟩, fun hh => by omega⟩
  | false =>
    rw [hc] at hf
    have hn : ¬ k ≤ dimN (lpN y) m := fun hh => by rw [Nat.ble_eq_true_of_le hh] at hc; cases hc
    refine ⟨fun hh => by omega, fun _ e => ?_⟩
    have : k' = k := by omega
    rw [this, Nat.beq_refl] at hf
    cases hf
theorem parts_first (y m : Nat) (h0 : 1715 ≤ y) (h1 : y ≤ 2454) (h2 : 1 ≤ m) (h3 : m ≤ 12) : py (rd y m 1) = y ∧ pm (rd y m 1) = m := by
  have hA := allB_at checkedB (y - 1715) (by omega)
  rw [frc_eq, show Nat.add 1715 (y - 1715) = y by show 1715 + (y - 1715) = y; omega] at hA
  have hB := allB_at hA (m - 1) (by omega)
  rw [show Nat.succ (m - 1) = m by omega] at hB
  unfold checkB at hB
  simp only [frc_eq] at hB
  obtain ⟨e1, e2⟩ := start_eq y m (by omega) h2 h3
  obtain ⟨y', m', k', hf, hy, hm, hk⟩ := atN_at hB
  have en : ((Nat.add (firstN y) (Nat.add (cumN m) (cond (Nat.ble 3 m) (lpN y) 0)) : Nat) : Int) - 730791 = rd y m 1 := by
    generalize Nat.add (firstN y) (Nat.add (cumN m) (cond (Nat.ble 3 m) (lpN y) 0)) = z at *
    omega
  rw [en] at hy hm
  obtain ⟨g1, g2⟩ := cond_and hf
  have := Nat.eq_of_beq_eq_true g1
  have := Nat.eq_of_beq_eq_true g2
  exact ⟨by omega, by omega⟩
end Go.Proofs.YtfgekmfkaepgjaaDoor.Cal
