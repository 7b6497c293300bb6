/- Looks at the operation that comes next, and nothing else: so that a law is tried there alone (under 'with_reducible'). -/
import Derived.Test.YtdjpigfibafokaaGreatDoorDz01
import Derived.WalkKit
import Derived.Test.YtdjpigfibafokaaGreatDoorDz04
import Derived.Test.YtdjpigfibafokaaGreatDoorDz05
import Derived.Sort.Statements
import Derived.Test.YtdjpigfibafokaaGreatDoorDz02
namespace Go.Proofs.YtdjpigfibafokaaGreatDoor
variable {d h i m n:Nat}
variable {fr fr' pend st:List Nat}
variable {w:World}
set_option maxRecDepth 20000
open Go.RowKit

theorem at_ldd {P:Program} {ops:Array Oper} {Q:Exit→Act→World→Prop} {rest:List Oper} {a:Act} {ty t:TypeId} {p:String} {f:Array Edge} {g:Option (Nat×Bool)} (k s:Nat)
    (h:wpList P ops Q (Oper.mk (some k) (.load ty (.tmp s)) t p f g::rest) a w):wpList P ops Q (Oper.mk (some k) (.load ty (.tmp s)) t p f g::rest) a w:=h

theorem at_st {P:Program} {ops:Array Oper} {Q:Exit→Act→World→Prop} {rest:List Oper} {a:Act} {dst:Option Tmp} {ty t:TypeId} {p:String} {f:Array Edge} {g:Option (Nat×Bool)} {y:Operand} (s:Nat)
    (h:wpList P ops Q (Oper.mk dst (.store ty (.tmp s) y) t p f g::rest) a w):wpList P ops Q (Oper.mk dst (.store ty (.tmp s) y) t p f g::rest) a w:=h

theorem at_ald {P:Program} {ops:Array Oper} {Q:Exit→Act→World→Prop} {rest:List Oper} {a:Act} {ty t:TypeId} {p:String} {f:Array Edge} {g:Option (Nat×Bool)} (k:Nat)
    (h:wpList P ops Q (Oper.mk (some k) (.alloc ty) t p f g::rest) a w):wpList P ops Q (Oper.mk (some k) (.alloc ty) t p f g::rest) a w:=h

theorem at_bxd {P:Program} {ops:Array Oper} {Q:Exit→Act→World→Prop} {rest:List Oper} {a:Act} {ty t:TypeId} {p:String} {f:Array Edge} {g:Option (Nat×Bool)} {x:Operand} (k:Nat)
    (h:wpList P ops Q (Oper.mk (some k) (.box ty x) t p f g::rest) a w):wpList P ops Q (Oper.mk (some k) (.box ty x) t p f g::rest) a w:=h

theorem at_bdd {P:Program} {ops:Array Oper} {Q:Exit→Act→World→Prop} {rest:List Oper} {a:Act} {ty t:TypeId} {p:String} {f:Array Edge} {g:Option (Nat×Bool)} {x:Array (Nat×Operand)} (k:Nat)
    (h:wpList P ops Q (Oper.mk (some k) (.build ty x) t p f g::rest) a w):wpList P ops Q (Oper.mk (some k) (.build ty x) t p f g::rest) a w:=h

end Go.Proofs.YtdjpigfibafokaaGreatDoor

namespace Go.Proofs.YtdjpigfibafokaaGreatDoor
variable {d h i m n:Nat}
variable {fr fr' pend st:List Nat}
variable {w:World}
set_option maxRecDepth 20000
open Go.RowKit

def Seg (zs:Lq) (o:Nat) (xs:Lq):Prop:=∀j v,xs[j]?=some v→zs[o+j]?=some v

def nd (k:Int) (a b c d:Lq):Lq:=k::(a++(b++(c++d)))
def z32:Lq:=List.replicate 32 0
theorem z32_bytes:Bytes z32:=fun z hz=>by rw [List.eq_of_mem_replicate hz];omega

structure Nd (k:Int) (a b c d:Lq):Prop where
  k0:0≤k
  k1:k<256
  la:a.length=32
  lb:b.length=32
  lc:c.length=32
  ld:d.length=32
  ba:Bytes a
  bb:Bytes b
  bc:Bytes c
  bd:Bytes d

theorem sz_path:(Tryz.prog.info? 63).map (·.size)=some 32:=by kernel_rfl

theorem fold_put (off:Nat):∀(xs:List Value) (s:Nat) (zs:List Value),off+s+xs.length≤zs.length→
    (xs.zipIdx s).foldl (fun (cs:Array Value) (p:Value×Nat)=>cs.setIfInBounds (off+p.2) p.1) zs.toArray=(zs.take (off+s)++xs++zs.drop (off+s+xs.length)).toArray
  | [],s,zs,_=>by simp
  | x::xs,s,zs,h=>by
    rw [List.zipIdx_cons,List.foldl_cons];have e:zs.toArray.setIfInBounds (off+s) x=(zs.set (off+s) x).toArray:=by simp
    rw [e,fold_put off xs (s+1) _ (by simp at h ⊢;omega)];congr 1
    have h1:off+s<zs.length:=by simp at h;omega
    rw [show off+(s+1)=off+s+1 by omega,List.take_add_one];simp only [List.length_cons];rw [List.take_set_of_le (by omega),List.getElem?_set_self h1,List.drop_set_of_lt (by omega)];simp [show off+s+1+xs.length=off+s+(xs.length+1) by omega]

theorem fill_one (place:Nat→Option (Nat×Nat)) (i off n:Nat) (v:Value) (xs zs:List Value) (rest:List (Nat×Value)) (hp:place i=some (off,n)) (hv:v.cells=xs.toArray) (hn:xs.length=n) (hz:off+n≤zs.length):
    Instr.fill place zs.toArray ((i,v)::rest)=Instr.fill place (zs.take off++xs++zs.drop (off+n)).toArray rest:=by
  have h1: ¬((v.cells.size≠n || off+v.cells.size > zs.toArray.size)=true):=by
    rw [hv];simp;omega
  have h2:=fold_put off xs 0 zs (by omega);simp only [Nat.add_zero,hn] at h2;rw [Instr.fill,hp];simp only;rw [if_neg h1,hv];congr 1
  rw [← h2,show xs.toArray.zipIdx=xs.zipIdx.toArray by apply Array.ext <;> simp,List.foldl_toArray]

def ndPlaces:Nat→Option (Nat×Nat):=fun i=>(#[(0,1),(1,32),(33,32),(65,32),(97,32)]:Array (Nat×Nat))[i]?

theorem cells_b (xs:Lq):(Value.agg (B xs)).cells=(xs.map (Value.int .u8)).toArray:=rfl

end Go.Proofs.YtdjpigfibafokaaGreatDoor

namespace Go.Proofs.YtdjpigfibafokaaGreatDoor
variable {d h i m n:Nat}
variable {fr fr' pend st:List Nat}
variable {w:World}
set_option maxRecDepth 20000
open Go.RowKit

structure Lf where
  key:Lq
  val:Lq
  hk:Key key
  hl:val.length=32
  hb:Bytes val

instance:Inhabited Lf:=⟨⟨z32,z32,⟨rfl,z32_bytes⟩,rfl,z32_bytes⟩⟩

def Lf.ints (x:Lf):Lq:=Go.Proofs.YtdjpigfibafokaaGreatDoor.nd 1 x.key x.val z32 z32
def encLf (x:Lf):List Value:=x.ints.map (Value.int .u8)
def cfLf (x y:Lf):Int:=cmp x.key y.key

def Rise (l:List Lf):Prop:=l.Pairwise fun a b=>Ahead a.key b.key
def Same (l:List Lf) (d:Nat):Prop:=∀a∈l,∀b∈l,∀j,j<d→kb a.key j=kb b.key j
def sdL (l:List Lf) (d:Nat) (b:Int):List Lf:=l.filter fun x=>kb x.key d == b
def rtL:Nat→Nat→List Lf→Lq
  | _,_,[]=>emD
  | _,_,[x]=>lfD x.key x.val
  | 0,_,_::_::_=>inD emD emD
  | n+1,d,a::b::l=>inD (rtL n (d+1) (sdL (a::b::l) d 0)) (rtL n (d+1) (sdL (a::b::l) d 1))
theorem dig_by (l:Lq):Bytes (dig l):=dig_bytes l

instance (xs:Lq):Decidable (Key xs):=inferInstanceAs (Decidable (xs.length=32∧∀z∈xs,0≤z∧z≤255))

def mkLf (e:Ent):Lf:=if h:Key e.1 then ⟨e.1,vaD e.2,h,dig_length _,dig_by _⟩ else default
end Go.Proofs.YtdjpigfibafokaaGreatDoor

namespace Go.Proofs.YtdjpigfibafokaaGreatDoor
variable {d h i m n:Nat}
variable {fr fr' pend st:List Nat}
variable {w:World}
set_option maxRecDepth 20000
open Go.RowKit

structure Ce where
  dig:Lq
  kind:Int
  ab:Nat
  sz:Nat
  key:Lq
  val:Value
  bs:Lq
  dp:Nat
  l:Nat
  r:Nat

abbrev Lz:=List (Nat×Ce)

def cz (c:Ce):List Value:=c.dig.map (Value.int .u8)++(Value.int .u8 c.kind::Value.int .i64 (c.ab:Int)::Value.int .i64 (c.sz:Int)::(c.key.map (Value.int .u8)++[c.val,.int .i64 (c.dp:Int),.int .i64 (c.l:Int),.int .i64 (c.r:Int)]))
def zc:Ce:=⟨z32,0,0,0,z32,.slice none 0 0,[],0,0,0⟩

structure CeOk (c:Ce):Prop where
  ld:c.dig.length=32
  bd:Bytes c.dig
  hk:Key c.key
  vs:∃a k,c.val=.slice a c.bs.length k

theorem zc_ok:CeOk zc:=⟨rfl,z32_bytes,⟨rfl,z32_bytes⟩,none,0,rfl⟩
theorem cz_length {c:Ce} (h:CeOk c):(cz c).length=71:=by simp [cz,h.ld,h.hk.1]
theorem cz_one {c:Ce} (h:CeOk c):∀u∈cz c,u.oneCell'=true:=fun u hu=>by
  obtain ⟨a,k,e⟩:=h.vs;simp only [cz,List.mem_append,List.mem_map,List.mem_cons,e,List.not_mem_nil,or_false] at hu;rcases hu with ⟨_,_,rfl⟩ | rfl | rfl | rfl | ⟨_,_,rfl⟩ | rfl | rfl | rfl | rfl <;> rfl

def Core (c c':Ce):Prop:=c'= { c with ab:=c'.ab}
theorem Core.refl (c:Ce):Core c c:=rfl
theorem Core.trans {a b c:Ce} (h:Core a b) (k:Core b c):Core a c:=by
  unfold Core at *;rw [k,h]
theorem Core.ok {c c':Ce} (h:Core c c') (k:CeOk c):CeOk c':=by
  rw [h];exact ⟨k.ld,k.bd,k.hk,k.vs⟩
def reAb (c:Ce) (n:Nat):Ce:={ c with ab:=n}
theorem core_re (c:Ce) (n:Nat):Core c (reAb c n):=rfl

def cc (cs:Lz) (i:Nat):Nat:=(cs[i]?.getD (0,zc)).1
def ce (cs:Lz) (i:Nat):Ce:=(cs[i]?.getD (0,zc)).2

theorem cc_out (cs:Lz) (i:Nat) (h:cs.length≤i):cc cs i=0:=by simp [cc,List.getElem?_eq_none h]
theorem ce_out (cs:Lz) (i:Nat) (h:cs.length≤i):ce cs i=zc:=by simp [ce,List.getElem?_eq_none h]
theorem cc_lt {cs:Lz} (h:0<cc cs i):i<cs.length:=by
  apply Nat.lt_of_not_le;intro hn;rw [cc_out cs i hn] at h;omega
theorem cc_set (cs:Lz) (i j:Nat) (p:Nat×Ce) (hi:i<cs.length):cc (cs.set i p) j=if j=i then p.1 else cc cs j:=by
  unfold cc;rw [List.getElem?_set]
  by_cases h:i=j
  · subst h
    simp [hi]
  · rw [if_neg h,if_neg (fun e=>h e.symm)]
theorem ce_set (cs:Lz) (i j:Nat) (p:Nat×Ce) (hi:i<cs.length):ce (cs.set i p) j=if j=i then p.2 else ce cs j:=by
  unfold ce;rw [List.getElem?_set]
  by_cases h:i=j
  · subst h
    simp [hi]
  · rw [if_neg h,if_neg (fun e=>h e.symm)]
theorem cc_snoc (cs:Lz) (j:Nat) (p:Nat×Ce):cc (cs++[p]) j=if j=cs.length then p.1 else cc cs j:=by
  unfold cc
  by_cases h:j=cs.length
  · subst h
    simp
  · rw [if_neg h]
    by_cases h2:j<cs.length
    · rw [List.getElem?_append_left h2]
    · rw [List.getElem?_eq_none (by simp;omega),List.getElem?_eq_none (by omega)]
theorem ce_snoc (cs:Lz) (j:Nat) (p:Nat×Ce):ce (cs++[p]) j=if j=cs.length then p.2 else ce cs j:=by
  unfold ce
  by_cases h:j=cs.length
  · subst h
    simp
  · rw [if_neg h]
    by_cases h2:j<cs.length
    · rw [List.getElem?_append_left h2]
    · rw [List.getElem?_eq_none (by simp;omega),List.getElem?_eq_none (by omega)]

def pl (p:Nat×Ce):Pl:=(p.1,cz p.2)
theorem cnt_pl (cs:Lz) (i:Nat):cnt (cs.map pl) i=cc cs i:=by
  unfold cnt cc;rw [List.getElem?_map];cases cs[i]? <;> rfl
theorem thg_pl (cs:Lz) (i:Nat) (h:i<cs.length):thg (cs.map pl) i=cz (ce cs i):=by
  simp [thg,ce,h,pl]
theorem map_set (cs:Lz) (i c:Nat) (x:Ce):(cs.map pl).set i (c,cz x)=(cs.set i (c,x)).map pl:=by rw [List.map_set];rfl
theorem map_snoc (cs:Lz) (c:Nat) (x:Ce):cs.map pl++[(c,cz x)]=(cs++[(c,x)]).map pl:=by simp [pl]
theorem vac_pl (cs:Lz) (h:Int):Vac (cs.map pl) h↔∀i:Nat,h=(i:Int)+1→cc cs i=0:=by simp [Vac,cnt_pl]

def con (i:Nat) (p:Nat×Ce):Nat:=if 0<p.1 then (if p.2.l=i+1 then 1 else 0)+(if p.2.r=i+1 then 1 else 0) else 0
def ns (cs:Lz) (i:Nat):Nat:=(cs.map (con i)).sum

theorem ns_set (cs:Lz) (i j:Nat) (p:Nat×Ce) (hj:j<cs.length):ns (cs.set j p) i+con i (cc cs j,ce cs j)=ns cs i+con i p:=by
  induction cs generalizing j with
  | nil=>simp at hj
  | cons q r ih=>
    cases j with
    | zero=>
      have e:((cc (q::r) 0,ce (q::r) 0):Nat×Ce)=q:=rfl;rw [e];simp only [ns,List.set_cons_zero,List.map_cons,List.sum_cons];omega
    | succ j=>
      have e:((cc (q::r) (j+1),ce (q::r) (j+1)):Nat×Ce)=(cc r j,ce r j):=by simp [cc,ce]
      have:=ih j (by simpa using hj);rw [e];simp only [ns,List.set_cons_succ,List.map_cons,List.sum_cons] at this ⊢;omega
theorem ns_snoc (cs:Lz) (i:Nat) (p:Nat×Ce):ns (cs++[p]) i=ns cs i+con i p:=by simp [ns]
theorem ns_pos (cs:Lz) (i j:Nat) (h:0<cc cs j) (hs:(ce cs j).l=i+1∨(ce cs j).r=i+1):1≤ns cs i:=by
  have hj:=cc_lt h;have:=ns_set cs i j (0,zc) hj;have e0:con i (0,zc)=0:=rfl;have e1:1≤con i (cc cs j,ce cs j):=by
    unfold con;rw [if_pos h];rcases hs with e | e
    · rw [if_pos e];omega
    · rw [if_pos e];omega
  omega
theorem con_core (i:Nat) (n:Nat) (c c':Ce) (h:Core c c'):con i (n,c')=con i (n,c):=by rw [h];rfl
theorem con_pos (i:Nat) (n m:Nat) (c:Ce) (hn:0<n) (hm:0<m):con i (n,c)=con i (m,c):=by simp [con,hn,hm]

def noc (cs:Lz):Nat:=occs (cs.map pl)
theorem noc_set (cs:Lz) (i:Nat) (p:Nat×Ce) (hi:i<cs.length):noc (cs.set i p)+(if 0<cc cs i then 1 else 0)=noc cs+(if 0<p.1 then 1 else 0):=by
  have:=occs_set (cs.map pl) i (pl p) (by simpa using hi);rw [cnt_pl] at this;unfold noc;rw [List.map_set];exact this

def sdC (cs:Lz) (h:Nat):Ce:=if h=0 then zc else ce cs (h-1)
def sdD (cs:Lz) (h:Nat):Lq:=if h=0 then emD else (ce cs (h-1)).dig
def SideOk (cs:Lz) (d:Nat) (b:Int) (h:Nat):Prop:=h=0∨1≤h∧0<cc cs (h-1)∧kb (ce cs (h-1)).key d=b∧((ce cs (h-1)).kind=1∨(ce cs (h-1)).kind=2∧(ce cs (h-1)).dp=d+1)

structure LeafOk (c:Ce):Prop where
  kind:c.kind=1
  sz:c.sz=1
  dp:c.dp=0
  l:c.l=0
  r:c.r=0
  dig:c.dig=lfD c.key (vaD c.bs)
  len:c.bs.length≤1024
  by_:Bytes c.bs

structure InnOk (cs:Lz) (c:Ce):Prop where
  kind:c.kind=2
  dp:c.dp<256
  val:c.val=.slice none 0 0
  bs:c.bs=[]
  sl:SideOk cs c.dp 0 c.l
  sr:SideOk cs c.dp 1 c.r
  sz:c.sz=(sdC cs c.l).sz+(sdC cs c.r).sz
  two:2≤c.sz
  com:c.l≠0→c.r≠0→Und (sdC cs c.l).key (sdC cs c.r).key c.dp
  key:IsFill (if c.l=0 then (sdC cs c.r).key else (sdC cs c.l).key) c.dp 0 c.key
  dig:c.dig=inD (sdD cs c.l) (sdD cs c.r)

def NodeOk (cs:Lz) (c:Ce):Prop:=LeafOk c∨InnOk cs c

theorem LeafOk.core {c c':Ce} (h:LeafOk c) (k:Core c c'):LeafOk c':=by
  rw [k];exact ⟨h.kind,h.sz,h.dp,h.l,h.r,h.dig,h.len,h.by_⟩

def KeepS (cs cs':Lz) (h:Nat):Prop:=h≠0→0<cc cs' (h-1)∧Core (ce cs (h-1)) (ce cs' (h-1))
theorem KeepS.side {cs cs':Lz} {b:Int} (k:KeepS cs cs' h) (s:SideOk cs d b h):SideOk cs' d b h:=by
  rcases s with rfl | ⟨h1,h2,h3,h4⟩
  · exact .inl rfl
  · obtain ⟨k1,k2⟩:=k (by omega)
    refine .inr ⟨h1,k1,?_⟩;rw [k2];exact ⟨h3,h4⟩
theorem KeepS.sdC {cs cs':Lz} (k:KeepS cs cs' h):(sdC cs' h).sz=(sdC cs h).sz∧(sdC cs' h).key=(sdC cs h).key∧sdD cs' h=sdD cs h:=by
  unfold Go.Proofs.YtdjpigfibafokaaGreatDoor.sdC sdD
  by_cases e:h=0
  · simp [e]
  · rw [if_neg e,if_neg e,if_neg e,if_neg e,(k e).2]
    exact ⟨rfl,rfl,rfl⟩
theorem InnOk.keep {cs cs':Lz} {c:Ce} (h:InnOk cs c) (kl:KeepS cs cs' c.l) (kr:KeepS cs cs' c.r):InnOk cs' c:=by
  obtain ⟨l1,l2,l3⟩:=kl.sdC;obtain ⟨r1,r2,r3⟩:=kr.sdC;exact ⟨h.kind,h.dp,h.val,h.bs,kl.side h.sl,kr.side h.sr,by rw [l1,r1];exact h.sz,h.two,by rw [l2,r2];exact h.com,by rw [l2,r2];exact h.key,by rw [l3,r3];exact h.dig⟩
theorem InnOk.core {cs:Lz} {c c':Ce} (h:InnOk cs c) (k:Core c c'):InnOk cs c':=by
  rw [k];exact ⟨h.kind,h.dp,h.val,h.bs,h.sl,h.sr,h.sz,h.two,h.com,h.key,h.dig⟩

structure Wf (cs:Lz) (pend:List Nat):Prop where
  zero:∀i,cc cs i=0→ce cs i=zc
  ok:∀i,CeOk (ce cs i)
  ab:∀i,ns cs i=(ce cs i).ab
  le:∀i,(ce cs i).ab+pend.count (i+1)≤cc cs i
  tr:∀i,0<cc cs i→NodeOk cs (ce cs i)
  pos:∀h∈pend,1≤h

theorem Wf.new:Wf [] []:=⟨fun i _=>by simp [ce],fun i=>by simp [ce];exact zc_ok,fun i=>by simp [ns,ce];rfl,fun i=>by simp [ce,cc];rfl,fun i h=>by simp [cc] at h,fun h hh=>by cases hh⟩

theorem Wf.sides {cs:Lz} (ab:∀i,ns cs i=(ce cs i).ab) (le:∀i,(ce cs i).ab+pend.count (i+1)≤cc cs i) (i:Nat) (hi:0<cc cs i) (h:Nat) (hh:h=(ce cs i).l∨h=(ce cs i).r) (h0:h≠0):0<cc cs (h-1):=by
  have h1:=ns_pos cs (h-1) i hi (hh.elim (fun e=>.inl (by omega)) (fun e=>.inr (by omega)));have h2:=ab (h-1);have h3:=le (h-1);omega

theorem Wf.stay {cs cs':Lz} {pend':List Nat} (h:Wf cs pend) (zero:∀i,cc cs' i=0→ce cs' i=zc) (keep:∀i,0<cc cs' i→0<cc cs i∧Core (ce cs i) (ce cs' i))
    (ab:∀i,ns cs' i=(ce cs' i).ab) (le:∀i,(ce cs' i).ab+pend'.count (i+1)≤cc cs' i) (pos:∀h∈pend',1≤h):Wf cs' pend':=by
  refine ⟨zero,fun i=>?_,ab,le,fun i hi=>?_,pos⟩
  · by_cases e:0<cc cs' i
    · exact (keep i e).2.ok (h.ok i)
    · rw [zero i (by omega)]
      exact zc_ok
  · obtain ⟨k1,k2⟩:=keep i hi
    have hs:∀q,(q=(ce cs i).l∨q=(ce cs i).r)→KeepS cs cs' q:=fun q hq q0=>by
      have:=Wf.sides ab le i hi q (by rw [k2];exact hq) q0;exact ⟨this,(keep _ this).2⟩
    rcases h.tr i k1 with hl | hn
    · exact .inl (hl.core k2)
    · exact .inr ((hn.keep (hs _ (.inl rfl)) (hs _ (.inr rfl))).core k2)

def own (cs:Lz) (pend:List Nat) (i:Nat):Nat:=cc cs i-((ce cs i).ab+pend.count (i+1))
theorem Wf.own {cs:Lz} (h:Wf cs pend) (i:Nat):cc cs i=(ce cs i).ab+pend.count (i+1)+own cs pend i:=by
  have:=h.le i;unfold Go.Proofs.YtdjpigfibafokaaGreatDoor.own;omega

theorem Wf.recount {cs:Lz} {pend':List Nat} (h:Wf cs pend) (i q:Nat) (hi:0<cc cs i) (hq:0<q) (hle:(ce cs i).ab+pend'.count (i+1)≤q) (hp:∀j,j≠i→pend'.count (j+1)≤pend.count (j+1)) (pos:∀h∈pend',1≤h):Wf (cs.set i (q,ce cs i)) pend':=by
  have hl:=cc_lt hi;have hc:=fun j=>cc_set cs i j (q,ce cs i) hl
  have he:∀j,ce (cs.set i (q,ce cs i)) j=ce cs j:=fun j=>by
    rw [ce_set cs i j _ hl];split
    · next e=>rw [e]
    · rfl
  refine h.stay (fun j hj=>?_) (fun j hj=>?_) (fun j=>?_) (fun j=>?_) pos
  · rw [hc] at hj
    rw [he];split at hj
    · simp at hj;omega
    · exact h.zero j hj
  · rw [hc] at hj
    rw [he];split at hj
    · next e=>rw [e];exact ⟨hi,Core.refl _⟩
    · exact ⟨hj,Core.refl _⟩
  · have:=ns_set cs j i (q,ce cs i) hl
    rw [con_pos j q (cc cs i) (ce cs i) hq hi] at this;rw [he,← h.ab j];omega
  · rw [he,hc]
    split
    · next e=>rw [e];exact hle
    · next e=>
      have:=h.le j;have:=hp j e;omega

def setA (cs:Lz) (h n:Nat):Lz:=cs.set (h-1) (cc cs (h-1),reAb (ce cs (h-1)) n)
def upA (cs:Lz) (h:Nat):Lz:=if h=0 then cs else setA cs h ((ce cs (h-1)).ab+1)
def dnA (cs:Lz) (h:Nat):Lz:=if h=0 then cs else setA cs h ((ce cs (h-1)).ab-1)

theorem setA_length (cs:Lz) (h n:Nat):(setA cs h n).length=cs.length:=by simp [setA]
theorem setA_cc (cs:Lz) (h n i:Nat):cc (setA cs h n) i=cc cs i:=by
  by_cases hl:h-1<cs.length
  · rw [setA,cc_set cs _ _ _ hl]
    split
    · next e=>rw [e]
    · rfl
  · rw [setA,List.set_eq_of_length_le (by omega)]
theorem setA_ce (cs:Lz) (h n i:Nat) (hl:h-1<cs.length):ce (setA cs h n) i=if i=h-1 then reAb (ce cs i) n else ce cs i:=by
  rw [setA,ce_set cs _ _ _ hl];split
  · next e=>rw [e]
  · rfl
theorem setA_core (cs:Lz) (h n i:Nat):Core (ce cs i) (ce (setA cs h n) i):=by
  by_cases hl:h-1<cs.length
  · rw [setA_ce cs h n i hl]
    split
    · exact core_re _ _
    · exact Core.refl _
  · rw [setA,List.set_eq_of_length_le (by omega)]
    exact Core.refl _
theorem setA_ns (cs:Lz) (h n i:Nat):ns (setA cs h n) i=ns cs i:=by
  by_cases hl:h-1<cs.length
  · have:=ns_set cs i (h-1) (cc cs (h-1),reAb (ce cs (h-1)) n) hl
    rw [con_core i _ _ _ (core_re _ _)] at this;unfold setA;omega
  · rw [setA,List.set_eq_of_length_le (by omega)]
theorem setA_noc (cs:Lz) (h n:Nat):noc (setA cs h n)=noc cs:=by
  by_cases hl:h-1<cs.length
  · have:=noc_set cs (h-1) (cc cs (h-1),reAb (ce cs (h-1)) n) hl
    unfold setA;simp only at this;omega
  · rw [setA,List.set_eq_of_length_le (by omega)]

structure AbOf (cs cs':Lz):Prop where
  len:cs'.length=cs.length
  cc:∀i,cc cs' i=cc cs i
  core:∀i,Core (ce cs i) (ce cs' i)
  ns:∀i,ns cs' i=ns cs i
  noc:noc cs'=noc cs
theorem AbOf.refl (cs:Lz):AbOf cs cs:=⟨rfl,fun _=>rfl,fun _=>Core.refl _,fun _=>rfl,rfl⟩
theorem AbOf.trans {a b c:Lz} (h:AbOf a b) (k:AbOf b c):AbOf a c:=⟨k.len.trans h.len,fun i=>(k.cc i).trans (h.cc i),fun i=>(h.core i).trans (k.core i),fun i=>(k.ns i).trans (h.ns i),k.noc.trans h.noc⟩
theorem upA_of (cs:Lz) (h:Nat):AbOf cs (upA cs h):=by
  unfold upA;split
  · exact AbOf.refl _
  · exact ⟨setA_length _ _ _,setA_cc _ _ _,setA_core _ _ _,setA_ns _ _ _,setA_noc _ _ _⟩
theorem dnA_of (cs:Lz) (h:Nat):AbOf cs (dnA cs h):=by
  unfold dnA;split
  · exact AbOf.refl _
  · exact ⟨setA_length _ _ _,setA_cc _ _ _,setA_core _ _ _,setA_ns _ _ _,setA_noc _ _ _⟩
theorem upA_ab (cs:Lz) (h i:Nat) (hl:h-1<cs.length∨h=0):(ce (upA cs h) i).ab=(ce cs i).ab+(if h=i+1 then 1 else 0):=by
  unfold upA
  by_cases e:h=0
  · rw [if_pos e,if_neg (by omega)];rfl
  · rw [if_neg e,setA_ce cs h _ i (by omega)]
    by_cases e2:i=h-1
    · rw [if_pos e2,if_pos (by omega),e2];rfl
    · rw [if_neg e2,if_neg (by omega)];rfl
theorem dnA_ab (cs:Lz) (h i:Nat) (hl:h-1<cs.length∨h=0):(ce (dnA cs h) i).ab=(ce cs i).ab-(if h=i+1 then 1 else 0):=by
  unfold dnA
  by_cases e:h=0
  · rw [if_pos e,if_neg (by omega)];rfl
  · rw [if_neg e,setA_ce cs h _ i (by omega)]
    by_cases e2:i=h-1
    · rw [if_pos e2,if_pos (by omega),e2];rfl
    · rw [if_neg e2,if_neg (by omega)];rfl

def ne0 (h:Nat):List Nat:=if h=0 then [] else [h]
def lessC (cs:Lz) (i:Nat):Lz:=cs.set i (cc cs i-1,ce cs i)
def freeC (cs:Lz) (i:Nat):Lz:=dnA (dnA (cs.set i (0,zc)) (ce cs i).r) (ce cs i).l

inductive Run:Lz→List Nat→List Nat→Lz→List Nat→Nat→Prop
  | done (cs:Lz) (fr:List Nat):Run cs fr [] cs fr 0
  | keep {cs:Lz} {fr:List Nat} {i:Nat} {st:List Nat} {cs':Lz} {fr':List Nat} {n:Nat}:1<cc cs i→Run (lessC cs i) fr st cs' fr' n→Run cs fr ((i+1)::st) cs' fr' n
  | free {cs:Lz} {fr:List Nat} {i:Nat} {st:List Nat} {cs':Lz} {fr':List Nat} {n:Nat}:cc cs i=1→Run (freeC cs i) (fr++[i+1]) (ne0 (ce cs i).l++(ne0 (ce cs i).r++st)) cs' fr' n→Run cs fr ((i+1)::st) cs' fr' (n+1)

theorem ne0_count (h j:Nat):(ne0 h).count (j+1)=if h=j+1 then 1 else 0:=by
  unfold ne0
  by_cases e:h=0
  · rw [if_pos e,if_neg (by omega)];rfl
  · rw [if_neg e,List.count_singleton]
    simp

structure Step (cs:Lz) (pend:List Nat) (cs':Lz) (pend':List Nat) (n:Nat):Prop where
  wf:Wf cs' pend'
  len:cs'.length=cs.length
  own:∀i,own cs' pend' i=own cs pend i
  noc:noc cs'+n=noc cs
  keep:∀i,0<cc cs' i→0<cc cs i∧Core (ce cs i) (ce cs' i)
theorem Step.trans {a b c:Lz} {p q r:List Nat} (h:Step a p b q n) (k:Step b q c r m):Step a p c r (n+m):=
  ⟨k.wf,k.len.trans h.len,fun i=>(k.own i).trans (h.own i),by have:=h.noc;have:=k.noc;omega,fun i hi=>⟨(h.keep i (k.keep i hi).1).1,(h.keep i (k.keep i hi).1).2.trans (k.keep i hi).2⟩⟩

theorem step_less {cs:Lz} (h:Wf cs ((i+1)::st)) (hc:1<cc cs i):Step cs ((i+1)::st) (lessC cs i) st 0:=by
  have hl:=cc_lt (cs:=cs) (i:=i) (by omega);have hle:=h.le i;rw [List.count_cons_self] at hle;have hcnt:∀j,j≠i→((i+1)::st).count (j+1)=st.count (j+1):=fun j hj=>List.count_cons_of_ne (by omega)
  have hw:Wf (lessC cs i) st:=h.recount i _ (by omega) (by omega) (by omega) (fun j hj=>by rw [hcnt j hj];exact Nat.le_refl _) (fun q hq=>h.pos q (by simp [hq]));have hcc:=fun j=>cc_set cs i j (cc cs i-1,ce cs i) hl
  have he:∀j,ce (lessC cs i) j=ce cs j:=fun j=>by
    unfold lessC;rw [ce_set cs i j _ hl];split
    · next e=>rw [e]
    · rfl
  refine ⟨hw,by simp [lessC],fun j=>?_,?_,fun j hj=>?_⟩
  · unfold own
    rw [he];unfold lessC;rw [hcc]
    by_cases e:j=i
    · subst e
      rw [if_pos rfl,List.count_cons_self];simp only;omega
    · rw [if_neg e,hcnt j e]
  · have:=noc_set cs i (cc cs i-1,ce cs i) hl
    simp only at this;unfold lessC;rw [if_pos (by omega),if_pos (by omega)] at this;omega
  · rw [he]
    unfold lessC at hj;rw [hcc] at hj;split at hj
    · next e=>rw [e];exact ⟨by omega,Core.refl _⟩
    · exact ⟨hj,Core.refl _⟩

theorem side_ne {cs:Lz} {c:Ce} (h:InnOk cs c) {i:Nat} (hc:ce cs i=c):c.l≠i+1∧c.r≠i+1:=by
  have:=h.kind;constructor
  · intro e
    rcases h.sl with e2 | ⟨_,_,_,e2⟩
    · omega
    · rw [e,Nat.add_sub_cancel,hc] at e2
      omega
  · intro e
    rcases h.sr with e2 | ⟨_,_,_,e2⟩
    · omega
    · rw [e,Nat.add_sub_cancel,hc] at e2
      omega

theorem NodeOk.side_ne {cs:Lz} {c:Ce} (h:NodeOk cs c) {i:Nat} (hc:ce cs i=c):c.l≠i+1∧c.r≠i+1:=by
  rcases h with h | h
  · rw [h.l,h.r];omega
  · exact Go.Proofs.YtdjpigfibafokaaGreatDoor.side_ne h hc
theorem NodeOk.side_lt {cs:Lz} {c:Ce} (h:NodeOk cs c):(c.l-1<cs.length∨c.l=0)∧(c.r-1<cs.length∨c.r=0):=by
  rcases h with h | h
  · exact ⟨.inr h.l,.inr h.r⟩
  · constructor
    · rcases h.sl with e | ⟨_,e,_⟩
      · exact .inr e
      · exact .inl (cc_lt e)
    · rcases h.sr with e | ⟨_,e,_⟩
      · exact .inr e
      · exact .inl (cc_lt e)

theorem step_free {cs:Lz} (h:Wf cs ((i+1)::st)) (hc:cc cs i=1):Step cs ((i+1)::st) (freeC cs i) (ne0 (ce cs i).l++(ne0 (ce cs i).r++st)) 1:=by
  have hl:=cc_lt (cs:=cs) (i:=i) (by omega);have hle:=h.le i;rw [List.count_cons_self] at hle;have hn:=h.tr i (by omega);obtain ⟨nl,nr⟩:=hn.side_ne rfl;obtain ⟨bl,br⟩:=hn.side_lt;have hcnt:∀j,j≠i→((i+1)::st).count (j+1)=st.count (j+1):=fun j hj=>List.count_cons_of_ne (by omega)
  have hpc:∀j,(ne0 (ce cs i).l++(ne0 (ce cs i).r++st)).count (j+1)=(if (ce cs i).l=j+1 then 1 else 0)+((if (ce cs i).r=j+1 then 1 else 0)+st.count (j+1)):=fun j=>by rw [List.count_append,List.count_append,ne0_count,ne0_count]
  have a1:=dnA_of (cs.set i (0,zc)) (ce cs i).r;have a2:=dnA_of (dnA (cs.set i (0,zc)) (ce cs i).r) (ce cs i).l;have aa:AbOf (cs.set i (0,zc)) (freeC cs i):=a1.trans a2;have hcc:∀j,cc (freeC cs i) j=if j=i then 0 else cc cs j:=fun j=>by rw [aa.cc,cc_set cs i j _ hl]
  have hce:∀j,ce (cs.set i (0,zc)) j=if j=i then zc else ce cs j:=fun j=>ce_set cs i j _ hl
  have hab:∀j,(ce (freeC cs i) j).ab=(if j=i then 0 else (ce cs j).ab)-(if (ce cs i).r=j+1 then 1 else 0)-(if (ce cs i).l=j+1 then 1 else 0):=fun j=>by
    unfold freeC;rw [dnA_ab _ _ _ (by rw [a1.len,List.length_set];exact bl),dnA_ab _ _ _ (by rw [List.length_set];exact br),hce];split
    · rfl
    · rfl
  have hns:∀j,ns (freeC cs i) j+((if (ce cs i).l=j+1 then 1 else 0)+(if (ce cs i).r=j+1 then 1 else 0))=ns cs j:=fun j=>by
    have h1:=ns_set cs j i (0,zc) hl;have h2:con j (cc cs i,ce cs i)=(if (ce cs i).l=j+1 then 1 else 0)+(if (ce cs i).r=j+1 then 1 else 0):=by simp [con,hc]
    have h3:con j (0,zc)=0:=rfl;have h4:=aa.ns j;omega
  have hi0:(ce cs i).ab=0∧st.count (i+1)=0:=by omega
  have hle2:∀j,(ce (freeC cs i) j).ab+(ne0 (ce cs i).l++(ne0 (ce cs i).r++st)).count (j+1)≤cc (freeC cs i) j∧ns (freeC cs i) j=(ce (freeC cs i) j).ab:=fun j=>by
    rw [hpc,hab,hcc];have h1:=h.ab j;have h2:=hns j
    by_cases e:j=i
    · subst e
      rw [if_neg nl,if_neg nr] at *;rw [if_pos rfl,if_pos rfl];omega
    · have h3:=h.le j
      rw [hcnt j e] at h3;rw [if_neg e,if_neg e];omega
  have keep:∀j,0<cc (freeC cs i) j→0<cc cs j∧Core (ce cs j) (ce (freeC cs i) j):=fun j hj=>by
    have hk:=aa.core j;rw [hcc] at hj;rw [hce] at hk;split at hj
    · omega
    · next e=>
      rw [if_neg e] at hk;exact ⟨hj,hk⟩
  have hw:Wf (freeC cs i) (ne0 (ce cs i).l++(ne0 (ce cs i).r++st)):=by
    refine h.stay (fun j hj=>?_) keep (fun j=>(hle2 j).2) (fun j=>(hle2 j).1) (fun q hq=>?_)
    · have hk:=aa.core j
      have hab2:=hab j;have h0:=(hle2 j).1;rw [hj] at h0;have h1:(ce (freeC cs i) j).ab=0:=by omega
      rw [hce] at hk;rw [hk,h1];split
      · rfl
      · next e=>
        rw [hcc,if_neg e] at hj;rw [h.zero j hj];rfl
    · simp only [List.mem_append,ne0] at hq
      rcases hq with hq | hq | hq
      · split at hq
        · cases hq
        · simp at hq;omega
      · split at hq
        · cases hq
        · simp at hq;omega
      · exact h.pos q (by simp [hq])
  refine ⟨hw,by rw [aa.len];simp,fun j=>?_,?_,keep⟩
  · have hx:=(hle2 j).1
    have h2:=hns j;have h1:=h.ab j;have h4:=(hle2 j).2;unfold own;rw [hpc] at hx ⊢;rw [hcc] at hx ⊢
    by_cases e:j=i
    · subst e
      rw [if_neg nl,if_neg nr] at *;rw [if_pos rfl] at hx ⊢;rw [List.count_cons_self];omega
    · rw [if_neg e] at hx ⊢
      rw [hcnt j e];have h3:=h.le j;rw [hcnt j e] at h3;omega
  · have:=noc_set cs i (0,zc) hl
    rw [if_pos (by omega)] at this;rw [aa.noc];simp at this;omega

theorem Run.step {cs:Lz} {cs':Lz} (hr:Run cs fr st cs' fr' n) (h:Wf cs st):Step cs st cs' [] n:=by
  induction hr with
  | done cs fr=>exact ⟨h,rfl,fun _=>rfl,rfl,fun _ hi=>⟨hi,Core.refl _⟩⟩
  | keep hc _ ih=>
    have s:=step_less h hc;have:=s.trans (ih s.wf);rwa [Nat.zero_add] at this
  | free hc _ ih=>
    have s:=step_free h hc;have t:=s.trans (ih s.wf);exact ⟨t.wf,t.len,t.own,by have:=t.noc;omega,t.keep⟩

def tot (cs:Lz):Nat:=(cs.map (·.1)).sum
theorem tot_set (cs:Lz) (i:Nat) (p:Nat×Ce) (hi:i<cs.length):tot (cs.set i p)+cc cs i=tot cs+p.1:=by
  induction cs generalizing i with
  | nil=>simp at hi
  | cons q r ih=>
    cases i with
    | zero=>
      have e:cc (q::r) 0=q.1:=rfl;rw [e];simp only [tot,List.set_cons_zero,List.map_cons,List.sum_cons];omega
    | succ i=>
      have e:cc (q::r) (i+1)=cc r i:=by simp [cc]
      have:=ih i (by simpa using hi);rw [e];simp only [tot,List.set_cons_succ,List.map_cons,List.sum_cons] at this ⊢;omega
theorem tot_setA (cs:Lz) (h n:Nat):tot (setA cs h n)=tot cs:=by
  by_cases hl:h-1<cs.length
  · have:=tot_set cs (h-1) (cc cs (h-1),reAb (ce cs (h-1)) n) hl
    unfold setA;simp only at this;omega
  · rw [setA,List.set_eq_of_length_le (by omega)]
theorem tot_dnA (cs:Lz) (h:Nat):tot (dnA cs h)=tot cs:=by
  unfold dnA;split
  · rfl
  · exact tot_setA _ _ _
theorem tot_less (cs:Lz) (i:Nat) (hc:0<cc cs i):tot (lessC cs i)+1=tot cs:=by
  have:=tot_set cs i (cc cs i-1,ce cs i) (cc_lt hc);unfold lessC;simp only at this;omega
theorem tot_free (cs:Lz) (i:Nat) (hc:cc cs i=1):tot (freeC cs i)+1=tot cs:=by
  have:=tot_set cs i (0,zc) (cc_lt (by omega));unfold freeC;rw [tot_dnA,tot_dnA];simp only at this;omega

end Go.Proofs.YtdjpigfibafokaaGreatDoor
