/-
  URLs with a port written out (for URLPorts): plain lists; nothing runs here.
-/
import Derived.Test.YtakihnmajgmnpaaDoorUrl10
namespace Go.Proofs.YtakihnmajgmnpaaDoor
set_option linter.unusedVariables false
set_option linter.unusedSimpArgs false
set_option maxRecDepth 20000

def abI : List Int := [97, 46, 98]
theorem abI_ok : HostOk abI := by decide
/-- Scheme and host are read; what is behind them goes on. -/
theorem parseI_hd {sch hst : List Int} {x : Int} {q : List Int} (hs : sch = httpI ∨ sch = httpsI) (hh : HostOk hst) (ht : ∀ y ∈ x :: q, 33 ≤ y ∧ y ≤ 126) (hx : ([58, 47, 63, 35] : List Int).contains x = true) :
    parseI (sch ++ ([58, 47, 47] ++ (hst ++ x :: q))) = (portI sch (x :: q)).bind fun p => restI sch hst p.1 p.2 := by
  have hall : ∀ y ∈ sch ++ ([58, 47, 47] ++ (hst ++ x :: q)), 33 ≤ y ∧ y ≤ 126 := by
    intro y hy
    rcases List.mem_append.1 hy with h | h
    · rcases hs with rfl | rfl <;> simp [httpI, httpsI] at h <;> omega
    · rcases List.mem_append.1 h with h | h
      · simp at h; omega
      · rcases List.mem_append.1 h with h | h
        · have := hh.mem y h; unfold HB at this; omega
        · exact ht y h
  obtain ⟨f', hf', htr⟩ := trim_frag (f := []) hall (by rcases hs with rfl | rfl <;> simp [httpI, httpsI]) (.inl rfl)
  have hf0 : f' = [] := by
    have h1 := (trimI_sub (sch ++ ([58, 47, 47] ++ (hst ++ x :: q)) ++ [])).length_le
    rw [htr, List.append_nil, List.length_append] at h1
    exact List.eq_nil_of_length_eq_zero (by omega)
  rw [hf0, List.append_nil] at htr
  unfold parseI
  rw [htr]
  have hsch : schemeI (sch ++ ([58, 47, 47] ++ (hst ++ x :: q))) = some (sch, hst ++ x :: q) := by
    unfold schemeI
    rcases hs with e | e <;> rw [e]
    · have hb : begI (httpI ++ [58, 47, 47]) (lowL (httpI ++ ([58, 47, 47] ++ (hst ++ x :: q)))) = true := by rw [begI_iff]; rfl
      rw [if_pos hb]
      rfl
    · have hb1 : begI (httpI ++ [58, 47, 47]) (lowL (httpsI ++ ([58, 47, 47] ++ (hst ++ x :: q)))) = false := by
        rw [← Bool.not_eq_true, begI_iff]
        intro hx
        have := congrArg (fun l => l.getD 4 0) hx
        simp [httpI, httpsI, lowL, lowI] at this
      have hb2 : begI (httpsI ++ [58, 47, 47]) (lowL (httpsI ++ ([58, 47, 47] ++ (hst ++ x :: q)))) = true := by rw [begI_iff]; rfl
      rw [if_neg (by rw [hb1]; simp), if_pos hb2]
      rfl
  rw [hsch]
  show hostI sch _ = _
  have hstp := ahead_stop (r := q) (host_stops hh) hx
  unfold hostI
  rw [hstp.1, hstp.2, hh.low, if_pos hh]
theorem parseI_ab {sch : List Int} {x : Int} {q : List Int} (hs : sch = httpI ∨ sch = httpsI) (ht : ∀ y ∈ x :: q, 33 ≤ y ∧ y ≤ 126) (hx : ([58, 47, 63, 35] : List Int).contains x = true) :
    parseI (sch ++ ([58, 47, 47] ++ (abI ++ x :: q))) = (portI sch (x :: q)).bind fun p => restI sch abI p.1 p.2 := parseI_hd hs abI_ok ht hx
theorem figN_zeros (z : Nat) (l : List Int) : figN (List.replicate z 48 ++ l) = figN l := by
  induction z with
  | zero => rfl
  | succ z ih =>
    rw [List.replicate_succ, List.cons_append]
    unfold figN at *
    rw [List.foldl_cons]
    exact ih
/-- A port of one to five digits, and a path behind it. -/
theorem portI_digits {sch ds r : List Int} (h1 : 1 ≤ ds.length) (h5 : ds.length ≤ 5) (hd : ∀ x ∈ ds, 48 ≤ x ∧ x ≤ 57) :
    portI sch (58 :: (ds ++ 47 :: r)) = if 65535 < figN ds then none else some (if figN ds = ownI sch then 0 else figN ds, 47 :: r) := by
  have hb : begI [58] (58 :: (ds ++ 47 :: r)) = true := by rw [begI_iff]; rfl
  have hdn : ∀ y ∈ ds, ([47, 63, 35] : List Int).contains y = false := by
    intro y hy
    have := hd y hy
    apply contains_no
    intro k hk e
    match k, hk, e with
    | 0, _, e => simp at e; omega
    | 1, _, e => simp at e; omega
    | 2, _, e => simp at e; omega
    | (k + 3), hk, _ => simp only [List.length_cons, List.length_nil] at hk; omega
  have hst := ahead_stop (r := r) hdn (show ([47, 63, 35] : List Int).contains 47 = true by decide)
  have hd1 : (58 :: (ds ++ 47 :: r)).drop 1 = ds ++ 47 :: r := rfl
  unfold portI
  rw [if_pos hb, hd1, hst.1, hst.2]
  have hfig : figI ds 1 5 = some (figN ds) := by
    unfold figI
    rw [if_pos ⟨by omega, by omega, hd⟩]
  rw [hfig]
  rfl
theorem portT_len {u : UL} (h : u.port < 100000) : (portT u).length ≤ 6 := by
  unfold portT
  split
  · have := digs_short (n := u.port.toNat) (by omega)
    simp only [List.length_cons]; omega
  · simp
theorem restI_x {sch : List Int} {p : Int} (hs : sch = httpI ∨ sch = httpsI) (hp : p < 100000) : restI sch abI p [47, 120] = some ⟨sch, abI, p, [47, 120], []⟩ := by
  have e1 : dotsI (ahead [63] (ahead [35] [47, 120])) = [47, 120] := by decide +kernel
  have e2 : queryI (behind [63] (ahead [35] [47, 120])) = [] := by decide +kernel
  have hl := portT_len (u := ⟨sch, abI, p, [47, 120], []⟩) hp
  unfold restI
  simp only [e1, e2]
  rw [if_neg]
  rw [printI_parts]
  rcases hs with rfl | rfl <;> simp [httpI, httpsI, abI] at * <;> omega
theorem restI_0 {sch : List Int} (hs : sch = httpI ∨ sch = httpsI) : restI sch abI 0 [47] = some ⟨sch, abI, 0, [47], []⟩ := by
  have e1 : dotsI (ahead [63] (ahead [35] [47])) = [47] := by decide +kernel
  have e2 : queryI (behind [63] (ahead [35] [47])) = [] := by decide +kernel
  unfold restI
  simp only [e1, e2]
  rw [if_neg]
  rw [printI_parts]
  rcases hs with rfl | rfl <;> decide
/-- A port with zeros before it. -/
theorem parseI_port {sch : List Int} (hs : sch = httpI ∨ sch = httpsI) {n z : Nat} (hn : n < 100000) (hz : z + (digs n).length ≤ 5) :
    parseI (sch ++ ([58, 47, 47] ++ (abI ++ 58 :: ((List.replicate z 48 ++ digs n) ++ [47, 120])))) = if 65535 < n then none else some ⟨sch, abI, if (n : Int) = ownI sch then 0 else n, [47, 120], []⟩ := by
  have hd : ∀ x ∈ List.replicate z 48 ++ digs n, (48 : Int) ≤ x ∧ x ≤ 57 := by
    intro x hx
    rcases List.mem_append.1 hx with h | h
    · have := (List.mem_replicate.1 h).2; omega
    · exact digs_dig n x h
  have hlen := digs_len n
  rw [parseI_ab hs (by
    intro y hy
    rcases List.mem_cons.1 hy with rfl | h
    · omega
    · rcases List.mem_append.1 h with h | h
      · have := hd y h; omega
      · simp at h; omega) (by decide)]
  rw [portI_digits (by simp; omega) (by simp; omega) hd, figN_zeros, fig_digs (by omega)]
  by_cases h : 65535 < n
  · rw [if_pos (by omega), if_pos h]; rfl
  · rw [if_neg (by omega), if_neg h]
    show restI sch abI _ _ = _
    rw [restI_x hs (by split <;> omega)]
theorem parseI_bare {sch : List Int} (hs : sch = httpI ∨ sch = httpsI) : parseI (sch ++ ([58, 47, 47] ++ (abI ++ [47]))) = some ⟨sch, abI, 0, [47], []⟩ := by
  rw [parseI_ab hs (by simp) (by decide)]
  have : portI sch [47] = some (0, [47]) := by unfold portI; rw [if_neg (by decide)]
  rw [this]
  exact restI_0 hs
end Go.Proofs.YtakihnmajgmnpaaDoor
