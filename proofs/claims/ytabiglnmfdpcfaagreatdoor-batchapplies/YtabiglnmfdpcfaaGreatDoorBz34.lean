/- drop.raise, as a contract. -/
import Derived.Test.YtabiglnmfdpcfaaGreatDoorBz01
import Derived.Test.YtabiglnmfdpcfaaGreatDoorBz33
import Derived.Test.YtabiglnmfdpcfaaGreatDoorBz26
import Derived.Deep.Upon
import Derived.Test.YtabiglnmfdpcfaaGreatDoorBz18
namespace Go.Proofs.YtabiglnmfdpcfaaGreatDoor
variable {cs:Lz}
variable {h:Nat}
set_option maxRecDepth 20000
open Go.RowKit

def DraPost (w:World) (S:List Nat) (g gs room:Nat) (cs0 cs1:Lz) (fr:List Nat) (E:List Ent) (K:Lq) (f:Nat) (ss:List Nat) (e:Ending) (w':World):Prop:=
  ∃(top:Nat) (cs2:Lz) (fr2:List Nat),e=.returned (.int .i64 (top:Int))∧Rz K ss cs1 fr f cs2 fr2 top∧DzI cs0 E K f ss 0 cs2 top∧Hs w S w' g gs room cs2 fr2

end Go.Proofs.YtabiglnmfdpcfaaGreatDoor

namespace Go.Proofs.YtabiglnmfdpcfaaGreatDoor
variable {cs:Lz}
variable {h:Nat}
set_option maxRecDepth 20000
open Go.RowKit

def shF (cs:Lz) (K:Lq) (T:Tre):Nat:=(shk (fun h=>(sdC cs h).kind) (T.oth K) (T.oth K).length 0).2
def shN (cs:Lz) (K:Lq) (T:Tre):Nat:=(shk (fun h=>(sdC cs h).kind) (T.oth K) (T.oth K).length 0).1
def shS (cs:Lz) (K:Lq) (T:Tre):List Nat:=(T.oth K).take (shN cs K T)
def DropTo (cs:Lz) (fr:List Nat) (root:Nat) (K:Lq) (f:Nat) (ss:List Nat) (top:Nat) (cs':Lz) (fr':List Nat):Prop:=
  ∃(cs2:Lz) (fr2:List Nat) (n:Nat),Rz K ss (holdM cs (f::ss)) fr f cs2 fr2 top∧Run cs2 fr2 [root] cs' fr' n

def DpPost (w0:World) (S:List Nat) (g gs room:Nat) (cs:Lz) (fr:List Nat) (E:List Ent) (root:Nat) (K:Lq) (f:Nat) (ss:List Nat) (e:Ending) (w':World):Prop:=
  ∃(top:Nat) (cs':Lz) (fr':List Nat),e=.returned (.tuple #[.int .i64 (top:Int),.bool true,.int .i64 0])∧DropTo cs fr root K f ss top cs' fr'∧DropOk cs E K root top ss cs'∧Hs w0 S w' g gs room cs' fr'

end Go.Proofs.YtabiglnmfdpcfaaGreatDoor

namespace Go.Proofs.YtabiglnmfdpcfaaGreatDoor
variable {cs:Lz}
variable {h:Nat}
set_option maxRecDepth 20000
open Go.RowKit

def nN:Nat→Nat→List Ent→Nat
  | 0,_,l=>l.length
  | n+1,d,l=>if l.length≤1 then l.length else 1+(nN n (d+1) (sideOf l d 0)+nN n (d+1) (sideOf l d 1))

theorem nN_few (n d:Nat) (l:List Ent) (h:l.length≤1):nN n d l=l.length:=by
  cases n with
  | zero=>rfl
  | succ n=>rw [nN,if_pos h]

theorem num_is {cs:Lz} {pend:List Nat} (w:Wf cs pend):∀(T:Tre) (h d:Nat),IsT cs h T→((sdC cs h).kind=2→(sdC cs h).dp=d)→T.num=nN (256-d) d T.ents
  | .emp,h,d,_,_=>by rw [nN_few _ _ _ (by simp [Tre.ents])];rfl
  | .lf k b,h,d,_,_=>by rw [nN_few _ _ _ (by simp [Tre.ents])];rfl
  | .nd d hl hr L R,h,d',hT,hd=>by
    have n:=nd_ok w hT;obtain ⟨h1,h2,h3,h4,h5,h6,h7,h8⟩:=hT;have es:sdC cs h=ce cs (h-1):=if_neg (by omega);obtain rfl:d=d':=by
      rw [es] at hd;rw [← h4];exact hd h3
    have hdp:=n.dp;have a1:=num_is w L hl (d+1) h7 n.kl;have a2:=num_is w R hr (d+1) h8 n.kr;have htwo:=n.two;obtain ⟨m,hm⟩:∃m,256-d=m+1:=⟨255-d,by omega⟩;have hm2:256-(d+1)=m:=by omega
    rw [hm2] at a1 a2;show 1+(L.num+R.num)=nN (256-d) d (L.ents++R.ents);rw [hm,nN,if_neg (by omega),n.side0,n.side1,a1,a2]

def Tre.hds:Nat→Tre→List Nat
  | _,.emp=>[]
  | h,.lf _ _=>[h]
  | h,.nd _ hl hr l r=>h::(l.hds hl++r.hds hr)
theorem Tre.hds_len:∀(T:Tre) (h:Nat),(T.hds h).length=T.num
  | .emp,_=>rfl
  | .lf _ _,_=>rfl
  | .nd _ hl hr l r,_=>by
    simp only [Tre.hds,Tre.num,List.length_cons,List.length_append,Tre.hds_len l hl,Tre.hds_len r hr];omega
theorem hds_occ {cs:Lz}:∀(T:Tre) (h:Nat),IsT cs h T→∀q∈T.hds h,1≤q∧0<cc cs (q-1)
  | .emp,_,_,q,hq=>by cases hq
  | .lf _ _,h,hT,q,hq=>by
    obtain rfl:q=h:=by simpa [Tre.hds] using hq
    exact ⟨hT.1,hT.2.1⟩
  | .nd _ hl hr L R,h,hT,q,hq=>by
    obtain ⟨h1,h2,_,_,_,_,h7,h8⟩:=hT;rcases List.mem_cons.1 hq with e | hq
    · subst e
      exact ⟨h1,h2⟩
    · rcases List.mem_append.1 hq with hq | hq
      · exact hds_occ L hl h7 q hq
      · exact hds_occ R hr h8 q hq
theorem hds_top {T:Tre} (hT:IsT cs h T) (h0:h≠0):h∈T.hds h:=by
  match T,hT with
  | .emp,e=>exact absurd e h0
  | .lf _ _,_=>simp [Tre.hds]
  | .nd _ _ _ _ _,_=>simp [Tre.hds]
theorem hds_sub {cs:Lz} {pend:List Nat} (w:Wf cs pend):∀(T:Tre) (h:Nat),IsT cs h T→∀q∈T.hds h,∃U,IsT cs q U∧(∀e∈U.ents,e∈T.ents)∧((ce cs (q-1)).l≠0→(ce cs (q-1)).l∈T.hds h)∧((ce cs (q-1)).r≠0→(ce cs (q-1)).r∈T.hds h)∧(q≠h→(ce cs (q-1)).kind=2→(ce cs (h-1)).kind=2∧(ce cs (h-1)).dp<(ce cs (q-1)).dp)
  | .emp,_,_,q,hq=>by cases hq
  | .lf k b,h,hT,q,hq=>by
    obtain rfl:q=h:=by simpa [Tre.hds] using hq
    have hk:=hT.2.2.1;have hn:=w.tr (q-1) hT.2.1;rcases hn with hn | hn
    · exact ⟨_,hT,fun e he=>he,fun h=>absurd hn.l h,fun h=>absurd hn.r h,fun h=>absurd rfl h⟩
    · have:=hn.kind;omega
  | .nd d hl hr L R,h,hT,q,hq=>by
    have hT0:=hT;have n:=nd_ok w hT;obtain ⟨h1,h2,h3,h4,h5,h6,h7,h8⟩:=hT;rcases List.mem_cons.1 hq with e | hq
    · subst e
      refine ⟨_,hT0,fun e he=>he,fun h=>?_,fun h=>?_,fun h=>absurd rfl h⟩
      · rw [h5] at h ⊢
        exact List.mem_cons_of_mem _ (List.mem_append_left _ (hds_top h7 h))
      · rw [h6] at h ⊢
        exact List.mem_cons_of_mem _ (List.mem_append_right _ (hds_top h8 h))
    · have deep:∀(x:Nat) (X:Tre),IsT cs x X→q∈X.hds x→((sdC cs x).kind=2→(sdC cs x).dp=d+1)→((q≠x→(ce cs (q-1)).kind=2→(ce cs (x-1)).kind=2∧(ce cs (x-1)).dp<(ce cs (q-1)).dp))→(ce cs (q-1)).kind=2→(ce cs (h-1)).dp<(ce cs (q-1)).dp:=fun x X hX hq hk hd k2=>by
        have hx0:x≠0:=fun e=>by
          subst e;rw [IsT.one hX (show IsT cs 0 .emp from rfl)] at hq;cases hq
        have es:sdC cs x=ce cs (x-1):=if_neg hx0;rw [es] at hk
        by_cases e:q=x
        · subst e
          have:=hk k2;omega
        · obtain ⟨a,b⟩:=hd e k2
          have:=hk a;omega
      rcases List.mem_append.1 hq with hq | hq
      · obtain ⟨U,u1,u2,u3,u4,u5⟩:=hds_sub w L hl h7 q hq
        exact ⟨U,u1,fun e he=>List.mem_append_left _ (u2 e he),fun h=>List.mem_cons_of_mem _ (List.mem_append_left _ (u3 h)),fun h=>List.mem_cons_of_mem _ (List.mem_append_left _ (u4 h)),fun _ k2=>⟨h3,deep hl L h7 hq n.kl u5 k2⟩⟩
      · obtain ⟨U,u1,u2,u3,u4,u5⟩:=hds_sub w R hr h8 q hq
        exact ⟨U,u1,fun e he=>List.mem_append_right _ (u2 e he),fun h=>List.mem_cons_of_mem _ (List.mem_append_right _ (u3 h)),fun h=>List.mem_cons_of_mem _ (List.mem_append_right _ (u4 h)),fun _ k2=>⟨h3,deep hr R h8 hq n.kr u5 k2⟩⟩

theorem hds_nodup {cs:Lz} {pend:List Nat} (w:Wf cs pend):∀(T:Tre) (h:Nat),IsT cs h T→(T.hds h).Nodup
  | .emp,_,_=>List.nodup_nil
  | .lf _ _,h,_=>by simp [Tre.hds]
  | .nd d hl hr L R,h,hT=>by
    have n:=nd_ok w hT;obtain ⟨h1,h2,h3,h4,h5,h6,h7,h8⟩:=hT;have a1:=hds_nodup w L hl h7;have a2:=hds_nodup w R hr h8;have ne:∀(x:Nat) (X:Tre),IsT cs x X→((sdC cs x).kind=2→(sdC cs x).dp=d+1)→h ∉ X.hds x:=fun x X hX hk hq=>by
      obtain ⟨U,u1,_,_,_,u5⟩:=hds_sub w X x hX h hq;have hx0:x≠0:=fun e=>by
        subst e;rw [IsT.one hX (show IsT cs 0 .emp from rfl)] at hq;cases hq
      have es:sdC cs x=ce cs (x-1):=if_neg hx0;rw [es] at hk
      by_cases e:h=x
      · subst e
        have:=hk h3;omega
      · obtain ⟨a,b⟩:=u5 e h3
        have:=hk a;omega
    show (h::(L.hds hl++R.hds hr)).Nodup;rw [List.nodup_cons];refine ⟨fun hq=>?_,?_⟩
    · rcases List.mem_append.1 hq with hq | hq
      · exact ne hl L h7 n.kl hq
      · exact ne hr R h8 n.kr hq
    · rw [List.nodup_append]
      refine ⟨a1,a2,fun x hx y hy e=>?_⟩;subst e;obtain ⟨U,u1,u2,_⟩:=hds_sub w L hl h7 x hx;obtain ⟨V,v1,v2,_⟩:=hds_sub w R hr h8 x hy;have:=u1.one v1;subst this;have hx0:x≠0:=by have:=(hds_occ L hl h7 x hx).1;omega
      obtain ⟨e,he⟩:=List.exists_mem_of_ne_nil _ ((tree_ok w U x u1).pos hx0);have b1:=n.bL e (u2 e he);have b2:=n.bR e (v2 e he);omega

theorem slots_nodup (ps:List Pl):(slotsOf ps).Nodup:=by
  unfold slotsOf slotsK;unfold List.Nodup;rw [List.pairwise_map];exact (List.nodup_range.filter _).imp (fun h e=>h (by omega))

theorem noc_root (w:Wf cs []) {T:Tre} {h:Nat} (hT:IsT cs h T) (ho:∀i,own cs [] i≠0→h=i+1):noc cs=T.num:=by
  have up:∀i,0<cc cs i→i+1≠h→∃j,0<cc cs j∧(ce cs j).kind=2∧((ce cs j).l=i+1∨(ce cs j).r=i+1)∧((ce cs i).kind=2→(ce cs i).dp=(ce cs j).dp+1):=fun i hi hne=>by
    have h1:=w.own i;have h0:own cs [] i=0:=by
      apply Classical.byContradiction;intro q;exact hne (ho i q).symm
    rw [List.count_nil,h0] at h1;have h2:=w.ab i;obtain ⟨j,hj,hs⟩:=ns_ex cs i (by omega);rcases w.tr j hj with hn | hn
    · have:=hn.l;have:=hn.r;omega
    · refine ⟨j,hj,hn.kind,hs,fun hk=>?_⟩
      rcases hs with e | e
      · rcases hn.sl with q | ⟨_,_,_,q⟩
        · omega
        · rw [e,Nat.add_sub_cancel] at q
          omega
      · rcases hn.sr with q | ⟨_,_,_,q⟩
        · omega
        · rw [e,Nat.add_sub_cancel] at q
          omega
  have side:∀i j,j+1∈T.hds h→((ce cs j).l=i+1∨(ce cs j).r=i+1)→i+1∈T.hds h:=fun i j hj hs=>by
    obtain ⟨_,_,_,u3,u4,_⟩:=hds_sub w T h hT (j+1) hj;rw [Nat.add_sub_cancel] at u3 u4;rcases hs with e | e
    · rw [e] at u3
      exact u3 (by omega)
    · rw [e] at u4
      exact u4 (by omega)
  have in2:∀d i,0<cc cs i→(ce cs i).kind=2→(ce cs i).dp=d→i+1∈T.hds h:=by
    intro d;induction d using Nat.strongRecOn with
    | _ d ih=>
      intro i hi hk hd
      by_cases e:i+1=h
      · rw [e]
        exact hds_top hT (by omega)
      · obtain ⟨j,hj,hjk,hs,hjd⟩:=up i hi e
        have:=hjd hk;exact side i j (ih (ce cs j).dp (by omega) j hj hjk rfl) hs
  have all:∀i,0<cc cs i→i+1∈T.hds h:=fun i hi=>by
    by_cases e:i+1=h
    · rw [e]
      exact hds_top hT (by omega)
    · obtain ⟨j,hj,hjk,hs,_⟩:=up i hi e
      exact side i j (in2 _ j hj hjk rfl) hs
  have hp:(slotsOf (cs.map pl)).Perm (T.hds h):=by
    rw [List.perm_ext_iff_of_nodup (slots_nodup _) (hds_nodup w T h hT)];intro q;rw [slots_mem];constructor
    · rintro ⟨i,rfl,hi⟩
      rw [cnt_pl] at hi;exact all i hi
    · intro hq
      obtain ⟨h1,h2⟩:=hds_occ T h hT q hq;exact ⟨q-1,by omega,by rw [cnt_pl];exact h2⟩
  rw [noc,← slots_length,hp.length_eq,Tre.hds_len]

end Go.Proofs.YtabiglnmfdpcfaaGreatDoor

namespace Go.Proofs.YtabiglnmfdpcfaaGreatDoor
variable {cs:Lz}
variable {h:Nat}
set_option maxRecDepth 20000
open Go.RowKit

def hasK (E:List Ent) (K:Lq):Bool:=E.any fun e=>e.1 == K
def dlE (E:List Ent) (K:Lq):List Ent:=E.filter fun e=>!(e.1 == K)

def dcostN (cs:Lz) (T:Tre) (K:Lq):Nat:=if hasK T.ents K then shN cs K T else 0

structure DaIs (cs:Lz) (fr:List Nat) (T:Tre) (h:Nat) (K:Lq) (top:Nat) (cs':Lz) (fr':List Nat) (T':Tre):Prop where
  rt:Rt cs' top T'
  ents:T'.ents.Perm (dlE T.ents K)
  own:∀i,own cs' [] i+(if h=i+1 then 1 else 0)=own cs [] i+(if top=i+1 then 1 else 0)
  keep:∀x X,IsT cs x X→(x=0∨0<cc cs' (x-1))→IsT cs' x X
  noc:noc cs'≤noc cs+dcostN cs T K
  same:hasK T.ents K=false→top=h∧cs'=cs∧fr'=fr
  len:cs'.length≤cs.length+dcostN cs T K
  «to»:hasK T.ents K=true→DropTo cs fr h K (shF cs K T) (shS cs K T) top cs' fr'

def DaPost (w0:World) (S:List Nat) (g gs room:Nat) (cs:Lz) (fr:List Nat) (T:Tre) (h:Nat) (K:Lq) (e:Ending) (w':World):Prop:=
  ∃(top:Nat) (cs':Lz) (fr':List Nat) (T':Tre),e=.returned (.tuple #[.int .i64 (top:Int),.bool (hasK T.ents K),.int .i64 0])∧DaIs cs fr T h K top cs' fr' T'∧Hs w0 S w' g gs room cs' fr'

theorem Rt.only {T:Tre} (r:Rt cs h T) (W:Wf cs []) (ho:∀i,Go.Proofs.YtabiglnmfdpcfaaGreatDoor.own cs [] i≠0→h=i+1):noc cs=nN 256 0 T.ents:=by
  rw [noc_root W r.tree ho,num_is W T h 0 r.tree r.dp]

end Go.Proofs.YtabiglnmfdpcfaaGreatDoor
