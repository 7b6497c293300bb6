/- Writes that are sorted steadily: what a swap, a rotation, a merge leave as it was, and when a stretch is in order. No program in this text. -/
import Derived.Test.YtdjpigfibafokaaGreatDoorDz01
import Derived.Test.YtdjpigfibafokaaGreatDoorDz03
import Derived.Test.YtdjpigfibafokaaGreatDoorDz16
import Derived.Test.YtdjpigfibafokaaGreatDoorDz26
import Derived.Test.YtdjpigfibafokaaGreatDoorDz04
import Derived.Test.YtdjpigfibafokaaGreatDoorDz06
namespace Go.Proofs.YtdjpigfibafokaaGreatDoor
variable {a b b' c d fuel g i j k m mid n o s:Nat}
variable {v:Value}
variable {w w':World}
set_option maxRecDepth 20000
open Go.RowKit

structure Wt where
  k:Lq
  g:Bool
  b:Lq
  v:Value
instance:Inhabited Wt:=⟨⟨[],false,[],.slice none 0 0⟩⟩

theorem al_trans {a b c:Lq} (h:Ahead a b) (k:Ahead b c):Ahead a c:=by
  obtain ⟨i,hi,h1,h2,h3⟩:=h;obtain ⟨j,hj,k1,k2,k3⟩:=k;rcases Nat.lt_trichotomy i j with e | e | e
  · exact ⟨i,hi,fun q hq=>(h1 q hq).trans (k1 q (by omega)),h2,by rw [← k1 i e];exact h3⟩
  · subst e
    omega
  · exact ⟨j,hj,fun q hq=>(h1 q (by omega)).trans (k1 q hq),by rw [h1 j e];exact k2,k3⟩
theorem al_irr (a:Lq): ¬Ahead a a:=fun ⟨_,_,_,h2,h3⟩=>by omega
theorem al_tot {a b:Lq} (ha:Key a) (hb:Key b) (h: ¬Ahead a b):a=b∨Ahead b a:=by
  rcases cmp_key ha hb with ⟨_,e⟩ | ⟨_,e⟩ | ⟨_,e⟩
  · exact .inl e
  · exact absurd e h
  · exact .inr e
theorem al_cmp {a b:Lq} (ha:Key a) (hb:Key b):cmp a b<0↔Ahead a b:=by
  rcases cmp_key ha hb with ⟨q,e⟩ | ⟨q,e⟩ | ⟨q,e⟩
  · subst e
    exact ⟨fun h=>by omega,fun h=>absurd h (al_irr _)⟩
  · exact ⟨fun _=>e,fun _=>by omega⟩
  · exact ⟨fun h=>by omega,fun h=>absurd (al_trans e h) (al_irr _)⟩
theorem al_le {a b c:Lq} (ha:Key a) (hb:Key b) (h: ¬Ahead b a) (k:Ahead b c):Ahead a c:=by
  rcases al_tot hb ha h with e | e
  · rw [← e];exact k
  · exact al_trans e k
theorem al_lt {a b c:Lq} (hb:Key b) (hc:Key c) (h:Ahead a b) (k: ¬Ahead c b):Ahead a c:=by
  rcases al_tot hc hb k with e | e
  · rw [e];exact h
  · exact al_trans h e
theorem al_nn {a b c:Lq} (ha:Key a) (hb:Key b) (h: ¬Ahead b a) (k: ¬Ahead c b): ¬Ahead c a:=fun q=>by
  rcases al_tot hb ha h with e | e
  · rw [e] at k;exact k q
  · exact k (al_trans q e)

def Stab (l m:List Wt):Prop:=l.Perm m∧∀k,l.filter (fun x=>x.k == k)=m.filter (fun x=>x.k == k)
theorem Stab.refl (l:List Wt):Stab l l:=⟨.refl _,fun _=>rfl⟩
theorem Stab.trans {a b c:List Wt} (h:Stab a b) (k:Stab b c):Stab a c:=⟨h.1.trans k.1,fun x=>(h.2 x).trans (k.2 x)⟩
theorem Stab.app {a b c d:List Wt} (h:Stab a b) (k:Stab c d):Stab (a++c) (b++d):=⟨h.1.append k.1,fun x=>by rw [List.filter_append,List.filter_append,h.2,k.2]⟩
theorem Stab.swap {l m:List Wt} (h:∀x∈l,∀y∈m,x.k≠y.k):Stab (l++m) (m++l):=by
  refine ⟨List.perm_append_comm,fun k=>?_⟩;rw [List.filter_append,List.filter_append]
  by_cases e:∃x∈l,x.k=k
  · obtain ⟨x,hx,rfl⟩:=e
    have:m.filter (fun y=>y.k == x.k)=[]:=by
      rw [List.filter_eq_nil_iff];intro y hy;have:=h x hx y hy;simp;exact fun e=>this e.symm
    rw [this,List.append_nil,List.nil_append]
  · have:l.filter (fun y=>y.k == k)=[]:=by
      rw [List.filter_eq_nil_iff];intro y hy;simp;exact fun q=>e ⟨y,hy,q⟩
    rw [this,List.append_nil,List.nil_append]

def StR (a b:Nat) (xs ys:List Wt):Prop:=∃p m m' s,xs=p++(m++s)∧ys=p++(m'++s)∧p.length=a∧p.length+m.length=b∧Stab m m'
theorem StR.refl {xs:List Wt} (h1:a≤b) (h2:b≤xs.length):StR a b xs xs:=
  ⟨xs.take a,(xs.drop a).take (b-a),_,(xs.drop a).drop (b-a),by rw [List.take_append_drop,List.take_append_drop],by rw [List.take_append_drop,List.take_append_drop],by simp;omega,by simp;omega,Stab.refl _⟩
theorem StR.len {xs ys:List Wt} (h:StR a b xs ys):ys.length=xs.length:=by
  obtain ⟨p,m,m',s,rfl,rfl,_,_,h⟩:=h;simp [h.1.length_eq]
theorem StR.le {xs ys:List Wt} (h:StR a b xs ys):a≤b∧b≤xs.length:=by
  obtain ⟨p,m,m',s,rfl,rfl,h1,h2,h⟩:=h;simp;omega
theorem StR.wide {a':Nat} {xs ys:List Wt} (h:StR a b xs ys) (ha:a'≤a) (hb:b≤b') (hl:b'≤xs.length):StR a' b' xs ys:=by
  obtain ⟨p,m,m',s,rfl,rfl,h1,h2,h⟩:=h;refine ⟨p.take a',p.drop a'++(m++s.take (b'-b)),p.drop a'++(m'++s.take (b'-b)),s.drop (b'-b),?_,?_,by simp;omega,?_,(Stab.refl _).app (h.app (Stab.refl _))⟩
  · rw [List.append_assoc,List.append_assoc,List.take_append_drop,← List.append_assoc (p.take a'),List.take_append_drop]
  · rw [List.append_assoc,List.append_assoc,List.take_append_drop,← List.append_assoc (p.take a'),List.take_append_drop]
  · simp at hl
    simp;omega
theorem StR.trans {xs ys zs:List Wt} (h:StR a b xs ys) (k:StR a b ys zs):StR a b xs zs:=by
  obtain ⟨p,m,m',s,rfl,rfl,h1,h2,h⟩:=h;obtain ⟨q,n,n',t,e,rfl,k1,k2,k⟩:=k;obtain ⟨rfl,e2⟩:=List.append_inj e (by omega);have hl:=h.1.length_eq;obtain ⟨rfl,rfl⟩:=List.append_inj e2 (by omega);exact ⟨p,m,n',s,rfl,rfl,h1,h2,h.trans k⟩
theorem StR.out {xs ys:List Wt} (h:StR a b xs ys) (i:Nat) (hi:i<a∨b≤i):ys[i]?=xs[i]?:=by
  obtain ⟨p,m,m',s,rfl,rfl,h1,h2,h⟩:=h;have hl:=h.1.length_eq;rcases hi with hi | hi
  · rw [List.getElem?_append_left (by omega),List.getElem?_append_left (by omega)]
  · rw [List.getElem?_append_right (by omega),List.getElem?_append_right (by omega),List.getElem?_append_right (by omega),List.getElem?_append_right (by omega)]
    congr 1
    omega
theorem StR.mem {xs ys:List Wt} (h:StR a b xs ys) {i:Nat} (h1:a≤i) (h2:i<b):∃j,a≤j∧j<b∧ys[i]?=xs[j]?:=by
  obtain ⟨p,m,m',s,rfl,rfl,e1,e2,h⟩:=h;have hl:=h.1.length_eq;rw [List.getElem?_append_right (by omega),List.getElem?_append_left (by omega)];have hi:i-p.length<m'.length:=by omega
  rw [List.getElem?_eq_getElem hi];have:m'[i-p.length]∈m:=h.1.mem_iff.2 (List.getElem_mem hi);obtain ⟨j,hj,e⟩:=List.mem_iff_getElem.1 this;refine ⟨p.length+j,by omega,by omega,?_⟩;rw [List.getElem?_append_right (by omega),List.getElem?_append_left (by omega),Nat.add_sub_cancel_left,List.getElem?_eq_getElem hj,e]
theorem StR.stab {xs ys:List Wt} (h:StR a b xs ys):Stab xs ys:=by
  obtain ⟨p,m,m',s,rfl,rfl,e1,e2,h⟩:=h;exact (Stab.refl _).app (h.app (Stab.refl _))

def ky (xs:List Wt) (i:Nat):Lq:=xs[i]!.k
theorem ky_eq {xs ys:List Wt} (h:ys[i]?=xs[j]?):ky ys i=ky xs j:=by
  unfold ky;rw [List.getElem!_eq_getElem?_getD,List.getElem!_eq_getElem?_getD,h]
def Srt (a b:Nat) (xs:List Wt):Prop:=∀i j,a≤i→i<j→j<b→ ¬Ahead (ky xs j) (ky xs i)
theorem Srt.sub {a':Nat} {xs:List Wt} (h:Srt a b xs) (ha:a≤a') (hb:b'≤b):Srt a' b' xs:=fun i j h1 h2 h3=>h i j (by omega) h2 (by omega)
theorem Srt.one (a:Nat) (xs:List Wt):Srt a (a+1) xs:=fun i j h1 h2 h3=>by omega
theorem Srt.keep {xs ys:List Wt} (h:Srt a b xs) (k:StR c d xs ys) (hd:b≤c∨d≤a):Srt a b ys:=fun i j h1 h2 h3=>by
  rw [ky_eq (k.out i (by omega)),ky_eq (k.out j (by omega))];exact h i j h1 h2 h3

def swp (xs:List Wt) (i j:Nat):List Wt:=(xs.set i xs[j]!).set j xs[i]!
theorem swp_len (xs:List Wt) (i j:Nat):(swp xs i j).length=xs.length:=by simp [swp]
theorem swp_get (xs:List Wt) (i j q:Nat) (hi:i<xs.length) (hj:j<xs.length):(swp xs i j)[q]?=xs[if q=j then i else if q=i then j else q]?:=by
  unfold swp;rw [List.getElem?_set,List.length_set,List.getElem?_set]
  by_cases e1:q=j
  · rw [if_pos e1.symm,if_pos hj,if_pos e1,getElem!_pos xs i hi,List.getElem?_eq_getElem hi]
  · rw [if_neg (fun e=>e1 e.symm),if_neg e1]
    by_cases e2:q=i
    · rw [if_pos e2.symm,if_pos hi,if_pos e2,getElem!_pos xs j hj,List.getElem?_eq_getElem hj]
    · rw [if_neg (fun e=>e2 e.symm),if_neg e2]
theorem ky_swp (xs:List Wt) (i j q:Nat) (hi:i<xs.length) (hj:j<xs.length):ky (swp xs i j) q=ky xs (if q=j then i else if q=i then j else q):=ky_eq (swp_get xs i j q hi hj)

theorem swp_st (xs:List Wt) (j:Nat) (hj:j+1<xs.length) (h:ky xs j≠ky xs (j+1)):StR j (j+2) xs (swp xs j (j+1)):=by
  refine ⟨xs.take j,[xs[j],xs[j+1]],[xs[j+1],xs[j]],xs.drop (j+2),?_,?_,by simp;omega,by simp;omega,?_⟩
  · apply List.ext_getElem?
    intro q
    by_cases e:q<j
    · rw [List.getElem?_append_left (by simp;omega),List.getElem?_take_of_lt e]
    · rw [List.getElem?_append_right (by simp;omega),List.length_take,Nat.min_eq_left (by omega)]
      rcases Nat.lt_or_ge q (j+2) with e2 | e2
      · have:q=j∨q=j+1:=by omega
        rcases this with rfl | rfl
        · simp
        · simp [hj]
      · rw [List.getElem?_append_right (by simp;omega),List.getElem?_drop]
        congr 1
        simp;omega
  · apply List.ext_getElem?
    intro q;rw [swp_get xs j (j+1) q (by omega) hj]
    by_cases e:q<j
    · rw [if_neg (by omega),if_neg (by omega),List.getElem?_append_left (by simp;omega),List.getElem?_take_of_lt e]
    · rw [List.getElem?_append_right (by simp;omega),List.length_take,Nat.min_eq_left (by omega)]
      rcases Nat.lt_or_ge q (j+2) with e2 | e2
      · have:q=j∨q=j+1:=by omega
        rcases this with rfl | rfl
        · rw [if_neg (by omega),if_pos rfl];simp [hj]
        · rw [if_pos rfl];simp
      · rw [if_neg (by omega),if_neg (by omega),List.getElem?_append_right (by simp;omega),List.getElem?_drop]
        congr 1
        simp;omega
  · refine Stab.swap (l:=[xs[j]]) (m:=[xs[j+1]]) fun x hx y hy=>?_
    obtain rfl:x=xs[j]:=by simpa using hx
    obtain rfl:y=xs[j+1]:=by simpa using hy
    unfold ky at h;rw [getElem!_pos xs j (by omega),getElem!_pos xs (j+1) hj] at h;exact h

def Kys (xs:List Wt):Prop:=∀x∈xs,Key x.k
theorem Kys.at {xs:List Wt} (h:Kys xs) {i:Nat} (hi:i<xs.length):Key (ky xs i):=by
  unfold ky;rw [getElem!_pos xs i hi];exact h _ (List.getElem_mem hi)
def But (a i j:Nat) (xs:List Wt):Prop:=∀p q,a≤p→p<q→q≤i→q≠j→ ¬Ahead (ky xs q) (ky xs p)
theorem But.of {xs:List Wt} (h:Srt a i xs):But a i i xs:=fun p q h1 h2 h3 h4=>h p q h1 h2 (by omega)
theorem But.low {xs:List Wt} (h:But a i a xs):Srt a (i+1) xs:=fun p q h1 h2 h3=>h p q h1 h2 (by omega) (by omega)
theorem But.done {xs:List Wt} (h:But a i j xs) (hk:Kys xs) (hi:i<xs.length) (hj:a<j) (hji:j≤i) (k: ¬Ahead (ky xs j) (ky xs (j-1))):Srt a (i+1) xs:=fun p q h1 h2 h3=>by
  by_cases e:q=j
  · subst e
    by_cases e2:p=q-1
    · rw [e2];exact k
    · exact al_nn (hk.at (by omega)) (hk.at (by omega)) (h p (q-1) h1 (by omega) (by omega) (by omega)) k
  · exact h p q h1 h2 (by omega) e
theorem But.swap {xs:List Wt} (h:But a i j xs) (hi:i<xs.length) (hj:a<j) (hji:j≤i) (k:Ahead (ky xs j) (ky xs (j-1))):But a i (j-1) (swp xs (j-1) j):=fun p q h1 h2 h3 h4=>by
  rw [ky_swp xs _ _ q (by omega) (by omega),ky_swp xs _ _ p (by omega) (by omega)];rw [if_neg h4]
  by_cases e:q=j
  · rw [if_pos e]
    rw [if_neg (by omega)]
    by_cases e2:p=j-1
    · rw [if_pos e2]
      exact fun x=>al_irr _ (al_trans k x)
    · rw [if_neg e2]
      exact h p (j-1) h1 (by omega) (by omega) (by omega)
  · rw [if_neg e]
    by_cases e1:p=j
    · rw [if_pos e1]
      exact h (j-1) q (by omega) (by omega) (by omega) e
    · rw [if_neg e1]
      by_cases e2:p=j-1
      · rw [if_pos e2]
        exact h j q (by omega) (by omega) h3 e
      · rw [if_neg e2]
        exact h p q h1 h2 h3 e

def rotW (xs:List Wt) (a m b:Nat):List Wt:=xs.take a++((xs.drop m).take (b-m)++((xs.drop a).take (m-a)++xs.drop b))
theorem rot_get (xs:List Wt) (a m b i:Nat) (h1:a≤m) (h2:m≤b) (h3:b≤xs.length):(rotW xs a m b)[i]?=xs[if i<a then i else if i<a+(b-m) then i-a+m else if i<b then i-(b-m) else i]?:=by
  unfold rotW
  by_cases e1:i<a
  · rw [if_pos e1,List.getElem?_append_left (by simp;omega),List.getElem?_take_of_lt e1]
  · rw [if_neg e1,List.getElem?_append_right (by simp;omega),List.length_take,Nat.min_eq_left (by omega)]
    by_cases e2:i<a+(b-m)
    · rw [if_pos e2,List.getElem?_append_left (by simp;omega),List.getElem?_take_of_lt (by omega),List.getElem?_drop]
      congr 1
      omega
    · rw [if_neg e2,List.getElem?_append_right (by simp;omega)]
      simp only [List.length_take,List.length_drop];rw [Nat.min_eq_left (by omega)]
      by_cases e3:i<b
      · rw [if_pos e3,List.getElem?_append_left (by simp;omega),List.getElem?_take_of_lt (by omega),List.getElem?_drop]
        congr 1
        omega
      · rw [if_neg e3,List.getElem?_append_right (by simp;omega),List.getElem?_drop]
        simp only [List.length_take,List.length_drop];rw [Nat.min_eq_left (by omega)];congr 1
        omega
theorem ky_rot (xs:List Wt) (a m b i:Nat) (h1:a≤m) (h2:m≤b) (h3:b≤xs.length):ky (rotW xs a m b) i=ky xs (if i<a then i else if i<a+(b-m) then i-a+m else if i<b then i-(b-m) else i):=ky_eq (rot_get xs a m b i h1 h2 h3)
theorem rot_st (xs:List Wt) (a m b:Nat) (h1:a≤m) (h2:m≤b) (h3:b≤xs.length) (h:∀i j,a≤i→i<m→m≤j→j<b→ky xs i≠ky xs j):StR a b xs (rotW xs a m b):=by
  refine ⟨xs.take a,(xs.drop a).take (m-a)++(xs.drop m).take (b-m),(xs.drop m).take (b-m)++(xs.drop a).take (m-a),xs.drop b,?_,?_,by simp;omega,by simp;omega,Stab.swap ?_⟩
  · have e1:xs.drop m=(xs.drop m).take (b-m)++xs.drop b:=by
      conv=>lhs;rw [← List.take_append_drop (b-m) (xs.drop m)]
      rw [List.drop_drop];congr 2
      omega
    have e2:xs.drop a=(xs.drop a).take (m-a)++xs.drop m:=by
      conv=>lhs;rw [← List.take_append_drop (m-a) (xs.drop a)]
      rw [List.drop_drop];congr 2
      omega
    rw [List.append_assoc,← e1,← e2,List.take_append_drop]
  · unfold rotW
    rw [List.append_assoc]
  · intro x hx y hy
    obtain ⟨i,hi,rfl⟩:=List.mem_iff_getElem.1 hx;obtain ⟨j,hj,rfl⟩:=List.mem_iff_getElem.1 hy;simp only [List.length_take,List.length_drop] at hi hj;have:=h (a+i) (m+j) (by omega) (by omega) (by omega) (by omega);unfold ky at this;rw [getElem!_pos xs _ (by omega),getElem!_pos xs _ (by omega)] at this;simpa using this

theorem Srt.join {xs:List Wt} (h:Srt a c xs) (k:Srt c b xs) (hh:∀i j,a≤i→i<c→c≤j→j<b→ ¬Ahead (ky xs j) (ky xs i)):Srt a b xs:=fun i j h1 h2 h3=>by
  by_cases e1:j<c
  · exact h i j h1 h2 e1
  · by_cases e2:c≤i
    · exact k i j e2 h2 h3
    · exact hh i j h1 (by omega) (by omega) h3

structure Mg (xs:List Wt) (a m b s:Nat):Prop where
  lo:a≤s
  sm:s≤m
  e1:m≤(a+b) / 2+m-s
  e2:(a+b) / 2+m-s≤b
  gt:s<m→m<(a+b) / 2+m-s→Ahead (ky xs ((a+b) / 2+m-s-1)) (ky xs s)
  ge:a<s→(a+b) / 2+m-s<b→ ¬Ahead (ky xs ((a+b) / 2+m-s)) (ky xs (s-1))

theorem Mg.up {xs:List Wt} (g:Mg xs a m b s) (hk:Kys xs) (hb:b≤xs.length) (h1:Srt a m xs) (h2:Srt m b xs):∀i j,s≤i→i<m→m≤j→j<(a+b) / 2+m-s→Ahead (ky xs j) (ky xs i):=fun i j q1 q2 q3 q4=>by
  have:=g.lo;have:=g.e2;have h:=g.gt (by omega) (by omega);have h3:Ahead (ky xs j) (ky xs s):=by
    by_cases e:j=(a+b) / 2+m-s-1
    · rw [e];exact h
    · exact al_le (hk.at (by omega)) (hk.at (by omega)) (h2 j _ q3 (by omega) (by omega)) h
  by_cases e:i=s
  · rw [e];exact h3
  · exact al_lt (hk.at (by omega)) (hk.at (by omega)) h3 (h1 s i (by omega) (by omega) q2)
theorem Mg.low {xs:List Wt} (g:Mg xs a m b s) (hk:Kys xs) (hb:b≤xs.length) (h1:Srt a m xs) (h2:Srt m b xs):∀i j,a≤i→i<s→(a+b) / 2+m-s≤j→j<b→ ¬Ahead (ky xs j) (ky xs i):=fun i j q1 q2 q3 q4=>by
  have:=g.lo;have:=g.sm;have:=g.e1;have h:=g.ge (by omega) (by omega);have h3: ¬Ahead (ky xs j) (ky xs (s-1)):=by
    by_cases e:j=(a+b) / 2+m-s
    · rw [e];exact h
    · exact al_nn (hk.at (by omega)) (hk.at (by omega)) h (h2 _ j (by omega) (by omega) q4)
  by_cases e:i=s-1
  · rw [e];exact h3
  · exact al_nn (hk.at (by omega)) (hk.at (by omega)) (h1 i (s-1) q1 (by omega) (by omega)) h3

theorem StR.srt {xs ys:List Wt} (h:StR a b xs ys) {P:Lq→Prop} (k:∀i,a≤i→i<b→P (ky xs i)):∀i,a≤i→i<b→P (ky ys i):=fun i h1 h2=>by
  obtain ⟨j,j1,j2,e⟩:=h.mem h1 h2;rw [ky_eq e];exact k j j1 j2

structure Mr (xs ys:List Wt) (a b s:Nat) (mid e:Nat):Prop where
  st:StR a b xs ys
  s1:Srt a s ys
  s2:Srt s mid ys
  s3:Srt mid e ys
  s4:Srt e b ys
  cross:∀i j,a≤i→i<mid→mid≤j→j<b→ ¬Ahead (ky ys j) (ky ys i)

theorem rot_id (xs:List Wt) (a m b:Nat) (h1:a≤m) (h2:m≤b) (h3:b≤xs.length) (h:a=m∨m=b):rotW xs a m b=xs:=by
  apply List.ext_getElem?;intro i;rw [rot_get xs a m b i h1 h2 h3];congr 1
  split
  · rfl
  · split
    · omega
    · split <;> omega

theorem Mg.turn {xs:List Wt} (g:Mg xs a m b s) (hk:Kys xs) (hb:b≤xs.length) (h1:Srt a m xs) (h2:Srt m b xs):Mr xs (rotW xs s m ((a+b) / 2+m-s)) a b s ((a+b) / 2) ((a+b) / 2+m-s):=by
  have up:=g.up hk hb h1 h2;have low:=g.low hk hb h1 h2;obtain ⟨g1,g2,g3,g4,_,_⟩:=g;obtain ⟨mid,hm⟩:∃mid,mid=(a+b) / 2:=⟨_,rfl⟩;rw [← hm] at up low g3 g4 ⊢;obtain ⟨e,he⟩:∃e,e=mid+m-s:=⟨_,rfl⟩;rw [← he] at up low g3 g4 ⊢;have hr:=fun i=>ky_rot xs s m e i g2 g3 (by omega)
  have r1:∀i,i<s→ky (rotW xs s m e) i=ky xs i:=fun i q=>by rw [hr,if_pos q]
  have r2:∀i,s≤i→i<mid→ky (rotW xs s m e) i=ky xs (i-s+m):=fun i q1 q2=>by rw [hr,if_neg (by omega),if_pos (by omega)]
  have r3:∀i,mid≤i→i<e→ky (rotW xs s m e) i=ky xs (i-(e-m)):=fun i q1 q2=>by rw [hr,if_neg (by omega),if_neg (by omega),if_pos q2]
  have r4:∀i,e≤i→ky (rotW xs s m e) i=ky xs i:=fun i q=>by rw [hr,if_neg (by omega),if_neg (by omega),if_neg (by omega)]
  have st:=rot_st xs s m e g2 g3 (by omega) fun i j q1 q2 q3 q4 x=>by
    have:=up i j q1 q2 q3 q4;rw [x] at this;exact al_irr _ this
  generalize rotW xs s m e=ys at *;refine ⟨st.wide g1 g4 hb,fun i j q1 q2 q3=>?_,fun i j q1 q2 q3=>?_,fun i j q1 q2 q3=>?_,fun i j q1 q2 q3=>?_,fun i j q1 q2 q3 q4=>?_⟩
  · rw [r1 i (by omega),r1 j q3]
    exact h1 i j q1 q2 (by omega)
  · rw [r2 i q1 (by omega),r2 j (by omega) q3]
    exact h2 _ _ (by omega) (by omega) (by omega)
  · rw [r3 i q1 (by omega),r3 j (by omega) q3]
    exact h1 _ _ (by omega) (by omega) (by omega)
  · rw [r4 i q1,r4 j (by omega)]
    exact h2 i j (by omega) q2 (by omega)
  · by_cases c1:i<s
    · rw [r1 i c1]
      by_cases c2:j<e
      · rw [r3 j q3 c2]
        exact h1 _ _ q1 (by omega) (by omega)
      · rw [r4 j (by omega)]
        exact low i j q1 c1 (by omega) q4
    · rw [r2 i (by omega) q2]
      by_cases c2:j<e
      · rw [r3 j q3 c2]
        exact fun x=>al_irr _ (al_trans x (up (j-(e-m)) (i-s+m) (by omega) (by omega) (by omega) (by omega)))
      · rw [r4 j (by omega)]
        exact h2 _ _ (by omega) (by omega) q4

theorem Mr.done {xs ys zs us:List Wt} {e:Nat} (h:Mr xs ys a b s mid e) (h1:StR a mid ys zs) (h2:Srt a mid zs) (h3:StR mid b zs us) (h4:Srt mid b us):StR a b xs us∧Srt a b us:=by
  have l1:=h1.le;have l3:=h3.le;have e1:=h1.len;refine ⟨h.st.trans ((h1.wide (Nat.le_refl _) l3.1 (by omega)).trans (h3.wide l1.1 (Nat.le_refl _) l3.2)),(h2.keep h3 (.inl (Nat.le_refl _))).join h4 fun i j q1 q2 q3 q4=>?_⟩;have hj:∀i,a≤i→i<mid→∀j,mid≤j→j<b→ ¬Ahead (ky us j) (ky zs i):=fun i i1 i2=>h3.srt (P:=fun x=> ¬Ahead x (ky zs i)) fun j j1 j2=>by
    rw [ky_eq (h1.out j (.inr j1))];exact h1.srt (P:=fun x=> ¬Ahead (ky ys j) x) (fun q r1 r2=>h.cross q j r1 r2 j1 j2) i i1 i2
  rw [ky_eq (h3.out i (.inl q2))];exact hj i q1 q2 j q3 q4

structure Up (xs:List Wt) (a b k:Nat) (ys:List Wt):Prop where
  st:StR a b xs ys
  lo:∀q,a≤q→q<k→ky ys q=ky xs (q+1)
  me:ky ys k=ky xs a
  hi:∀q,k<q→ky ys q=ky xs q
theorem Up.start {xs:List Wt} (h1:a≤b) (h2:b≤xs.length):Up xs a b a xs:=⟨StR.refl h1 h2,fun q h1 h2=>by omega,rfl,fun _ _=>rfl⟩
theorem Up.step {xs ys:List Wt} (h:Up xs a b k ys) (ha:a≤k) (hk:k+1<b) (hl:Ahead (ky xs (k+1)) (ky xs a)):Up xs a b (k+1) (swp ys k (k+1)):=by
  have hb:=h.st.le.2;have hlen:=h.st.len;have hs:StR k (k+2) ys (swp ys k (k+1)):=swp_st ys k (by omega) fun e=>by
    rw [h.me,h.hi (k+1) (by omega)] at e;rw [e] at hl;exact al_irr _ hl
  have g:=fun q=>ky_swp ys k (k+1) q (by omega) (by omega)
  refine ⟨h.st.trans (hs.wide ha (by omega) (by omega)),fun q q1 q2=>?_,?_,fun q q1=>?_⟩
  · rw [g,if_neg (by omega)]
    by_cases e:q=k
    · rw [if_pos e,e]
      exact h.hi _ (by omega)
    · rw [if_neg e]
      exact h.lo q q1 (by omega)
  · rw [g,if_pos rfl]
    exact h.me
  · rw [g,if_neg (by omega),if_neg (by omega)]
    exact h.hi q (by omega)
theorem Up.done {xs ys:List Wt} (h:Up xs a b (i-1) ys) (h1:a<i) (h2:i≤b) (hs:Srt (a+1) b xs) (hlt:∀p,a<p→p<i→Ahead (ky xs p) (ky xs a)) (hge:∀p,i≤p→p<b→ ¬Ahead (ky xs p) (ky xs a)):Srt a b ys:=fun p q p1 p2 p3=>by
  by_cases e1:p<i-1
  · rw [h.lo p p1 e1]
    by_cases e2:q<i-1
    · rw [h.lo q (by omega) e2]
      exact hs _ _ (by omega) (by omega) (by omega)
    · by_cases e3:q=i-1
      · rw [e3,h.me]
        exact fun x=>al_irr _ (al_trans x (hlt (p+1) (by omega) (by omega)))
      · rw [h.hi q (by omega)]
        exact hs _ _ (by omega) (by omega) p3
  · rw [h.hi q (by omega)]
    by_cases e3:p=i-1
    · rw [e3,h.me]
      exact hge q (by omega) p3
    · rw [h.hi p (by omega)]
      exact hs _ _ (by omega) p2 p3

structure Dn (xs:List Wt) (a m k:Nat) (ys:List Wt):Prop where
  st:StR a (m+1) xs ys
  hi:∀q,k<q→q≤m→ky ys q=ky xs (q-1)
  me:ky ys k=ky xs m
  lo:∀q,q<k→ky ys q=ky xs q
theorem Dn.start {xs:List Wt} (h1:a≤m) (h2:m<xs.length):Dn xs a m m xs:=⟨StR.refl (by omega) h2,fun q h1 h2=>by omega,rfl,fun _ _=>rfl⟩
theorem swp_comm (xs:List Wt) (i j:Nat) (hi:i<xs.length) (hj:j<xs.length):swp xs i j=swp xs j i:=by
  apply List.ext_getElem?;intro q;rw [swp_get xs i j q hi hj,swp_get xs j i q hj hi];congr 1
  split
  · split
    · omega
    · rfl
  · rfl
theorem Dn.step {xs ys:List Wt} (h:Dn xs a m k ys) (ha:a<k) (hk:k≤m) (hl:Ahead (ky xs m) (ky xs (k-1))):Dn xs a m (k-1) (swp ys k (k-1)):=by
  have hb:=h.st.le.2;have hlen:=h.st.len;obtain ⟨j,rfl⟩:∃j,k=j+1:=⟨k-1,by omega⟩;rw [Nat.add_sub_cancel] at hl ⊢;rw [swp_comm ys (j+1) j (by omega) (by omega)];have hs:StR j (j+2) ys (swp ys j (j+1)):=swp_st ys j (by omega) fun e=>by
    rw [h.me,h.lo j (by omega)] at e;rw [e] at hl;exact al_irr _ hl
  have g:=fun q=>ky_swp ys j (j+1) q (by omega) (by omega)
  refine ⟨h.st.trans (hs.wide (by omega) (by omega) (by omega)),fun q q1 q2=>?_,?_,fun q q1=>?_⟩
  · rw [g]
    by_cases e:q=j+1
    · rw [if_pos e,e]
      exact h.lo _ (by omega)
    · rw [if_neg e,if_neg (by omega)]
      exact h.hi q (by omega) q2
  · rw [g,if_neg (by omega),if_pos rfl]
    exact h.me
  · rw [g,if_neg (by omega),if_neg (by omega)]
    exact h.lo q (by omega)
theorem Dn.done {xs ys:List Wt} (h:Dn xs a m i ys) (h1:a≤i) (h2:i≤m) (hs:Srt a m xs) (hge:∀p,a≤p→p<i→ ¬Ahead (ky xs m) (ky xs p)) (hlt:∀p,i≤p→p<m→Ahead (ky xs m) (ky xs p)):Srt a (m+1) ys:=fun p q p1 p2 p3=>by
  by_cases e1:q<i
  · rw [h.lo p (by omega),h.lo q e1]
    exact hs p q p1 p2 (by omega)
  · by_cases e2:q=i
    · rw [e2,h.me,h.lo p (by omega)]
      exact hge p p1 (by omega)
    · rw [h.hi q (by omega) (by omega)]
      by_cases e3:p<i
      · rw [h.lo p e3]
        exact hs p (q-1) p1 (by omega) (by omega)
      · by_cases e4:p=i
        · rw [e4,h.me]
          exact fun x=>al_irr _ (al_trans x (hlt (q-1) (by omega) (by omega)))
        · rw [h.hi p (by omega) (by omega)]
          exact hs _ _ (by omega) (by omega) (by omega)

def swr (xs:List Wt) (a b:Nat):Nat→List Wt
  | 0=>xs
  | n+1=>swp (swr xs a b n) (a+n) (b+n)
theorem swr_len (xs:List Wt) (a b:Nat):∀n,(swr xs a b n).length=xs.length
  | 0=>rfl
  | n+1=>by rw [swr,swp_len,swr_len xs a b n]
theorem swr_get (xs:List Wt) (a b:Nat) (h:a≤b):∀n,a+n≤b→b+n≤xs.length→∀q,(swr xs a b n)[q]?=xs[if a≤q∧q<a+n then q+(b-a) else if b≤q∧q<b+n then q-(b-a) else q]?
  | 0,_,_,q=>by
    rw [swr,if_neg (by omega),if_neg (by omega)]
  | n+1,h1,h2,q=>by
    have ih:=swr_get xs a b h n (by omega) (by omega);rw [swr,swp_get _ _ _ _ (by rw [swr_len];omega) (by rw [swr_len];omega),ih];congr 1
    repeat' split
    all_goals omega

def Rt5 (xs:List Wt) (a m b i j:Nat) (ys:List Wt):Prop:=i≤m∧a≤m-i∧m+j≤b∧0<i∧0<j∧ys.length=xs.length∧rotW ys (m-i) m (m+j)=rotW xs a m b
theorem Rt5.left {xs ys:List Wt} (h:Rt5 xs a m b i j ys) (hb:b≤xs.length) (hij:j<i):Rt5 xs a m b (i-j) j (swr ys (m-i) m j):=by
  obtain ⟨h1,h2,h3,h4,h5,h6,h7⟩:=h;refine ⟨by omega,by omega,h3,by omega,h5,by rw [swr_len,h6],?_⟩;rw [← h7];apply List.ext_getElem?;intro q;rw [rot_get _ _ _ _ _ (by omega) (by omega) (by rw [swr_len];omega),rot_get _ _ _ _ _ (by omega) (by omega) (by omega),swr_get _ _ _ (by omega) _ (by omega) (by omega)];congr 1
  repeat' split
  all_goals omega
theorem Rt5.right {xs ys:List Wt} (h:Rt5 xs a m b i j ys) (hb:b≤xs.length) (hij:i<j):Rt5 xs a m b i (j-i) (swr ys (m-i) (m+j-i) i):=by
  obtain ⟨h1,h2,h3,h4,h5,h6,h7⟩:=h;refine ⟨h1,h2,by omega,h4,by omega,by rw [swr_len,h6],?_⟩;rw [← h7];apply List.ext_getElem?;intro q;rw [rot_get _ _ _ _ _ (by omega) (by omega) (by rw [swr_len];omega),rot_get _ _ _ _ _ (by omega) (by omega) (by omega),swr_get _ _ _ (by omega) _ (by omega) (by omega)];congr 1
  repeat' split
  all_goals omega
theorem Rt5.last {xs ys:List Wt} (h:Rt5 xs a m b i i ys) (hb:b≤xs.length):swr ys (m-i) m i=rotW xs a m b:=by
  obtain ⟨h1,h2,h3,h4,h5,h6,h7⟩:=h;rw [← h7];apply List.ext_getElem?;intro q;rw [swr_get _ _ _ (by omega) _ (by omega) (by omega),rot_get _ _ _ _ _ (by omega) (by omega) (by omega)];congr 1
  repeat' split
  all_goals omega

end Go.Proofs.YtdjpigfibafokaaGreatDoor

namespace Go.Proofs.YtdjpigfibafokaaGreatDoor
variable {a b b' c d fuel g i j k m mid n o s:Nat}
variable {v:Value}
variable {w w':World}
set_option maxRecDepth 20000
open Go Go.RowKit

section
variable {P:Program} {ops:Array Oper} {Q:Exit→Act→World→Prop} {md:Region.Mode} {S:World→Prop} {Ws:List Nat}

def wrote (Ws:List Nat) (listed:Array Bool):Bool:=Ws.any fun L=>listed.getD L false
theorem wrote_set {listed:Array Bool} (h:Ws.contains i=false):wrote Ws (listed.setIfInBounds i true)=wrote Ws listed:=by
  unfold wrote;apply Bool.eq_iff_iff.2;simp only [List.any_eq_true];have hne:∀L∈Ws,i≠L:=fun L hL e=>by
    subst e;simp at h;exact h hL
  constructor
  · rintro ⟨L,h1,h2⟩
    exact ⟨L,h1,by rwa [getD_set_ne false (hne L h1)] at h2⟩
  · rintro ⟨L,h1,h2⟩
    exact ⟨L,h1,by rwa [getD_set_ne false (hne L h1)]⟩
theorem wrote_not {listed:Array Bool} (hs:ShutL md ops listed) (hi:listed.getD i false=false) (hld:(Ws.all fun L=>leads md ops i n L)=true):wrote Ws listed=false:=by
  unfold wrote;rw [Bool.eq_false_iff];intro h;obtain ⟨L,h1,h2⟩:=List.any_eq_true.1 h;have h3:=List.all_eq_true.1 hld L h1;cases ho:ops[L]? with
  | none=>
    cases n with
    | zero=>simp [leads] at h3
    | succ n=>unfold leads at h3;rw [ho] at h3;cases h3
  | some o=>exact leads_on hs hi n L h3 o ho (hs L o ho h2)

def wpAnyW (P:Program) (md:Region.Mode) (ops:Array Oper) (Q:Exit→Act→World→Prop) (S:World→Prop) (Ws:List Nat):Nat→Array Bool→Act→World→Prop
  | 0,listed,a,w=>Region.ready md ops listed=[]∧Q .normal a w
  | fuel+1,listed,a,w=>
    (Region.ready md ops listed=[]→Q .normal a w)∧
    ∀i∈Region.ready md ops listed,wpOp P ops Q i (fun a' w'=>(wrote Ws (listed.setIfInBounds i true)=true∨S w')∧wpAnyW P md ops Q S Ws fuel (listed.setIfInBounds i true) a' w') a w

theorem wpAny_of_wrote:∀(fuel:Nat) (listed:Array Bool) (a:Act) (w:World),wpAnyW P md ops Q S Ws fuel listed a w→wpAny P md ops Q fuel listed a w
  | 0,_,_,_,h=>h
  | fuel+1,_,_,_,h=>⟨h.1,fun i hi=>wpOp_mono (fun a' w' h'=>wpAny_of_wrote fuel _ a' w' h'.2) (h.2 i hi)⟩

theorem unlisted {listed:Array Bool} (hr:i∈Region.ready md ops listed):listed.getD i false=false:=by
  have h0:=(mem_ready.1 hr).1;rcases Nat.lt_or_ge i listed.size with h' | h'
  · simpa [h'] using h0
  · simp [Array.getElem?_eq_none h']

theorem wpAnyW_first {oi:Oper} (hi:ops[i]?=some oi) (hsel:∀(j:Nat) (o:Oper) cs b,ops[j]?=some o→o.op≠.select cs b)
    (hQ:∀c a w,Q (.panic c) (a.put oi.dst v) w→Q (.panic c) a w) (hld:(Ws.all fun L=>leads md ops i n L)=true) (hiw:Ws.contains i=false):
    ∀(fuel:Nat) (listed:Array Bool) (a:Act) (w:World),ShutL md ops listed→
      (∀j oj,ops[j]?=some oj→j≠i→listed.getD j true=false→(∀e∈oj.after,Region.binds md e=true→e.on≠i)→oi.apart ops oj=true)→
      i∈Region.ready md ops listed→YieldsIf P ops S oi v a→S w→
      wpAnyW P md ops Q S Ws fuel (listed.setIfInBounds i true) (a.put oi.dst v) w→wpAnyW P md ops Q S Ws (fuel+1) listed a w:=by
  intro fuel;induction fuel with
  | zero=>
    intro listed a w _ _ hr hy hS H;refine ⟨fun h=>(by rw [h] at hr;cases hr),fun j hj=>?_⟩
    by_cases hji:j=i
    · subst hji;exact hy.wpOp hi hS ⟨.inr hS,H⟩
    · have:=ready_mono hj hji
      rw [H.1] at this;cases this
  | succ fuel ih=>
    intro listed a w hsh hfree hr hy hS H;refine ⟨fun h=>(by rw [h] at hr;cases hr),fun j hj=>?_⟩
    by_cases hji:j=i
    · subst hji;exact hy.wpOp hi hS ⟨.inr hS,H⟩
    · have h1:=H.2 j (ready_mono hj hji)
      obtain ⟨hjun,oj,hoj,hall⟩:=mem_ready.1 hj;have hi0:=unlisted hr;have hnw:wrote Ws ((listed.setIfInBounds i true).setIfInBounds j true)=false:=by
        rw [Array.setIfInBounds_comm _ _ (Ne.symm hji),wrote_set hiw];refine wrote_not (hsh.step hj) ?_ hld;rw [getD_set_ne false hji];exact hi0
      have hnot:∀e∈oj.after,Region.binds md e=true→e.on≠i:=fun e he hb heq=>by
        have h1:=hall e he hb;rw [heq,hi0] at h1;cases h1
      have h2:=wpOp_putIf hoj (hfree j oj hoj hji hjun hnot) (fun cs b=>hsel i oi cs b hi) (fun cs b=>hsel j oj cs b hoj) hQ hy h1;have hfree':∀k ok,ops[k]?=some ok→k≠i→(listed.setIfInBounds j true).getD k true=false→
          (∀e∈ok.after,Region.binds md e=true→e.on≠i)→oi.apart ops ok=true:=fun k ok hk hki hun hno=>by
        refine hfree k ok hk hki ?_ hno
        by_cases hjk:j=k
        · subst hjk;exact hjun
        · rw [getD_set_ne true hjk] at hun;exact hun
      refine wpOp_mono (fun a' w' h3=>?_) h2;have hS':S w':=h3.2.1.resolve_left (by rw [hnw];simp);refine ⟨.inr hS',ih (listed.setIfInBounds j true) a' w' (hsh.step hj) hfree' (ready_mono hr (Ne.symm hji)) h3.1 hS' ?_⟩;rw [Array.setIfInBounds_comm _ _ hji];exact h3.2.2

theorem wpAnyW_pure {oi:Oper} (hi:ops[i]?=some oi) (hsel:∀(j:Nat) (o:Oper) cs b,ops[j]?=some o→o.op≠.select cs b)
    (hQ:∀c a w,Q (.panic c) (a.put oi.dst v) w→Q (.panic c) a w) (hiw:Ws.contains i=false):
    ∀(fuel:Nat) (listed:Array Bool) (a:Act) (w:World),
      (∀j oj,ops[j]?=some oj→j≠i→listed.getD j true=false→(∀e∈oj.after,Region.binds md e=true→e.on≠i)→oi.apart ops oj=true)→
      i∈Region.ready md ops listed→YieldsIf P ops (fun _=>True) oi v a→(wrote Ws listed=true∨S w)→
      wpAnyW P md ops Q S Ws fuel (listed.setIfInBounds i true) (a.put oi.dst v) w→wpAnyW P md ops Q S Ws (fuel+1) listed a w:=by
  intro fuel;induction fuel with
  | zero=>
    intro listed a w _ hr hy hS H;refine ⟨fun h=>(by rw [h] at hr;cases hr),fun j hj=>?_⟩
    by_cases hji:j=i
    · subst hji;exact hy.wpOp hi trivial ⟨by rw [wrote_set hiw];exact hS,H⟩
    · have:=ready_mono hj hji
      rw [H.1] at this;cases this
  | succ fuel ih=>
    intro listed a w hfree hr hy hS H;refine ⟨fun h=>(by rw [h] at hr;cases hr),fun j hj=>?_⟩
    by_cases hji:j=i
    · subst hji;exact hy.wpOp hi trivial ⟨by rw [wrote_set hiw];exact hS,H⟩
    · have h1:=H.2 j (ready_mono hj hji)
      obtain ⟨hjun,oj,hoj,hall⟩:=mem_ready.1 hj;have hi0:=unlisted hr;have hnot:∀e∈oj.after,Region.binds md e=true→e.on≠i:=fun e he hb heq=>by
        have h1:=hall e he hb;rw [heq,hi0] at h1;cases h1
      have h2:=wpOp_putIf hoj (hfree j oj hoj hji hjun hnot) (fun cs b=>hsel i oi cs b hi) (fun cs b=>hsel j oj cs b hoj) hQ hy h1;have hfree':∀k ok,ops[k]?=some ok→k≠i→(listed.setIfInBounds j true).getD k true=false→
          (∀e∈ok.after,Region.binds md e=true→e.on≠i)→oi.apart ops ok=true:=fun k ok hk hki hun hno=>by
        refine hfree k ok hk hki ?_ hno
        by_cases hjk:j=k
        · subst hjk;exact hjun
        · rw [getD_set_ne true hjk] at hun;exact hun
      refine wpOp_mono (fun a' w' h3=>?_) h2;have hS':wrote Ws (listed.setIfInBounds j true)=true∨S w':=by
        have:=h3.2.1;rwa [Array.setIfInBounds_comm _ _ (Ne.symm hji),wrote_set hiw] at this
      refine ⟨hS',ih (listed.setIfInBounds j true) a' w' hfree' (ready_mono hr (Ne.symm hji)) h3.1 hS' ?_⟩;rw [Array.setIfInBounds_comm _ _ hji];exact h3.2.2

theorem wpAnyW_take {oi:Oper} {listed:Array Bool} {a:Act} (hi:ops[i]?=some oi)
    (hs:Region.noSelect ops=true) (hf:Region.free md ops listed i=true) (hr:(Region.ready md ops listed).contains i=true) (hld:(Ws.all fun L=>leads md ops i 40 L)=true) (hiw:Ws.contains i=false) (hsh:shutB md ops listed=true)
    (hQ:∀c a w,Q (.panic c) (a.put oi.dst v) w→Q (.panic c) a w) (hy:YieldsIf P ops S oi v a) (hS:S w)
    (h:wpAnyW P md ops Q S Ws fuel (listed.setIfInBounds i true) (a.put oi.dst v) w):wpAnyW P md ops Q S Ws (fuel+1) listed a w:=
  wpAnyW_first hi (Region.noSelect_spec hs) hQ hld hiw fuel listed a w (shutL_of hsh) (Region.free_spec hi hf) (by simpa using hr) hy hS h
theorem wpAnyW_take0 {oi:Oper} {listed:Array Bool} {a:Act} (hi:ops[i]?=some oi)
    (hs:Region.noSelect ops=true) (hf:Region.free md ops listed i=true) (hr:(Region.ready md ops listed).contains i=true) (hiw:Ws.contains i=false)
    (hQ:∀c a w,Q (.panic c) (a.put oi.dst v) w→Q (.panic c) a w) (hy:YieldsIf P ops (fun _=>True) oi v a) (hS:wrote Ws listed=true∨S w)
    (h:wpAnyW P md ops Q S Ws fuel (listed.setIfInBounds i true) (a.put oi.dst v) w):wpAnyW P md ops Q S Ws (fuel+1) listed a w:=
  wpAnyW_pure hi (Region.noSelect_spec hs) hQ hiw fuel listed a w (Region.free_spec hi hf) (by simpa using hr) hy hS h

theorem wpAnyW_one {listed:Array Bool} {a:Act} {o:Oper} (ho:ops[i]?=some o) (hr:Region.ready md ops listed=[i]) (hw:wrote Ws (listed.setIfInBounds i true)=true)
    (h:∀K':Act→World→Prop,Shut (∀a w,wpAnyW P md ops Q S Ws fuel (listed.setIfInBounds i true) a w→K' a w)→if Region.wanted o (yielded ops a.tmps)=true then Oper.wp P o a w K' Q else K' (a.put o.dst undef) w):
    wpAnyW P md ops Q S Ws (fuel+1) listed a w:=by
  refine ⟨fun h0=>?_,fun j hj=>?_⟩
  · rw [hr] at h0
    cases h0
  · rw [hr] at hj
    obtain rfl:j=i:=by simpa using hj
    exact wpOp_step ho (fun K' hK=>h K' (fun a w hW=>hK a w ⟨.inl hw,hW⟩))

theorem wpAnyW_done {listed:Array Bool} {a:Act} (he:Region.ready md ops listed=[]) (h:Q .normal a w):wpAnyW P md ops Q S Ws fuel listed a w:=by
  cases fuel with
  | zero=>exact ⟨he,h⟩
  | succ n=>exact ⟨fun _=>h,by rw [he];simp⟩

theorem wp_region_wrote {id:Nat} {a:Act} (Ws:List Nat) (hm:P.follows .mixedOrders=true) (hS:S w.drew)
    (h:S w.drew→wpAnyW P .any ops Q S Ws ops.size (Array.replicate ops.size false) a w.drew):(Code.region id ops true).wp P Q a w:=
  wp_region_any hm (wpAny_of_wrote _ _ _ _ (h hS))

end
end Go.Proofs.YtdjpigfibafokaaGreatDoor

namespace Go.Proofs.YtdjpigfibafokaaGreatDoor
variable {a b b' c d fuel g i j k m mid n o s:Nat}
variable {v:Value}
variable {w w':World}
set_option maxRecDepth 20000
open Go.RowKit

def encW (x:Wt):List Value:=x.k.map (Value.int .u8)++[.bool x.g,x.v]

structure WtOk (x:Wt):Prop where
  hk:Key x.k
  hb:Bytes x.b
  hv:∃a c,x.v=.slice a x.b.length c
theorem WtOk.one {x:Wt} (h:WtOk x):∀u∈encW x,u.oneCell'=true:=fun u hu=>by
  obtain ⟨a,c,e⟩:=h.hv;unfold encW at hu;simp only [List.mem_append,List.mem_map,List.mem_cons,List.not_mem_nil,or_false] at hu;rcases hu with ⟨z,_,rfl⟩ | rfl | rfl
  · rfl
  · rfl
  · rw [e];rfl
theorem WtOk.len {x:Wt} (h:WtOk x):(encW x).length=34:=by simp [encW,h.hk.1]
theorem WtOk.all {x:Wt} (h:WtOk x):(encW x).toArray.all (·.oneCell')=true:=all_oneCell_toArray h.one

theorem size_write:(Tryz.prog.info? 198).map (·.size)=some 34:=by kernel_rfl

theorem u_write:∃fs,Tryz.prog.underlying 198=some (.struct fs):=⟨_,Tryz.underlying198⟩

theorem info_write:∃i z,Tryz.prog.info? 198=some i∧i.zero=some z∧i.size=34∧i.bytes=64∧z.cells.size=34:=⟨_,_,rfl,rfl,rfl,rfl,rfl⟩

theorem encW_key {x:Wt} (h:w.rangeAt g o (encW x)):w.rangeAt g o (B x.k).toList:=by
  intro j u hu;rw [B_toList] at hu;have hj:j<(x.k.map (Value.int .u8)).length:=(List.getElem?_eq_some_iff.1 hu).1;refine h j u ?_;unfold encW;rw [List.getElem?_append_left hj];exact hu
theorem encW_gone {x:Wt} (h:w.rangeAt g o (encW x)) (hk:x.k.length=32):w.cell? ⟨g,o+32,none⟩=some (.bool x.g):=by
  refine h 32 _ ?_;unfold encW;rw [List.getElem?_append_right (by simp [hk])];simp [hk]
theorem encW_val {x:Wt} (h:w.rangeAt g o (encW x)) (hk:x.k.length=32):w.cell? ⟨g,o+33,none⟩=some x.v:=by
  refine h 33 _ ?_;unfold encW;rw [List.getElem?_append_right (by simp [hk])];simp [hk]
theorem rngW_grow {cs:List Value} (h:w.rangeAt g o cs) (hb:Kb w w'):w'.rangeAt g o cs:=fun j v hv=>(hb.cell (p:=⟨g,o+j,none⟩) (block_lt_of_cell (h j v hv))).trans (h j v hv)

abbrev LsW (w:World) (v:Value) (xs:List Wt):Prop:=Lst w 198 34 v xs.length (flatE encW xs)

theorem lsW_swp {xs:List Wt} (h:Lst w 198 34 (.slice (some ⟨g,0,none⟩) xs.length c) xs.length (flatE encW xs)) (hok:∀x∈xs,WtOk x) (hi:i<xs.length) (hj:j<xs.length):
    Lst ((w.setCells g (i * 34) (encW xs[j])).setCells g (j * 34) (encW xs[i])) 198 34 (.slice (some ⟨g,0,none⟩) (swp xs i j).length c) (swp xs i j).length (flatE encW (swp xs i j)):=by
  have l0:∀x∈xs,(encW x).length=34:=fun x hx=>(hok x hx).len
  have h1:=lstE_set h l0 i hi xs[j] (l0 _ (List.getElem_mem hj));have l1:∀x∈xs.set i xs[j],(encW x).length=34:=fun x hx=>by
    rcases List.mem_or_eq_of_mem_set hx with hx | rfl
    · exact l0 x hx
    · exact l0 _ (List.getElem_mem hj)
  have h2:=lstE_set h1 l1 j (by rw [List.length_set];exact hj) xs[i] (l0 _ (List.getElem_mem hi));rw [swp_len];have e:swp xs i j=(xs.set i xs[j]).set j xs[i]:=by unfold swp;rw [getElem!_pos xs i hi,getElem!_pos xs j hj]
  rw [e];exact h2

end Go.Proofs.YtdjpigfibafokaaGreatDoor

namespace Go.Proofs.YtdjpigfibafokaaGreatDoor
variable {a b b' c d fuel g i j k m mid n o s:Nat}
variable {v:Value}
variable {w w':World}
set_option maxRecDepth 20000
open Go.RowKit

end Go.Proofs.YtdjpigfibafokaaGreatDoor
