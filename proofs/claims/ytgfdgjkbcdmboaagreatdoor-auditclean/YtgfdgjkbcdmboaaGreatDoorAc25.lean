/- audit.leavesOf and audit.entriesOf, as contracts. -/
import Derived.Test.YtgfdgjkbcdmboaaGreatDoorAc24
import Derived.Carry
namespace Go.Proofs.YtgfdgjkbcdmboaaGreatDoor
set_option maxRecDepth 20000
open Go.RowKit
def lvA (ca:Int→Ce) (l:List Nat):List Nat:=l.filter fun (h:Nat)=>decide ((ca (h:Int)).kind=1)
theorem Ydj (ca:Int→Ce) (l:List Nat) (h:Nat):lvA ca (l++[h])=if (ca (h:Int)).kind=1 then lvA ca l++[h] else lvA ca l:=by
 unfold lvA
 rw [List.filter_append]
 by_cases e:(ca (h:Int)).kind=1
 ·rw [if_pos e]
  simp [e]
 ·rw [if_neg e]
  simp [e]
set_option maxHeartbeats 4000000 in
theorem Zue {w:World} {v:Value} {mk:Bool} {ct:Int→Nat} {ca:Int→Ce} (V:Vw w v mk ct ca) (a:Option Addr) (c M:Nat) (L:List Nat) (hl:Lst w 3 1 (.slice a M c) M (nats L)) (hM:M=L.length) (h6:M≤65537):Calls Tryz.prog 71 #[v,.slice a M c] w fun e w'=>∃a' c',e=.returned (.slice a' (lvA ca L).length c')∧w'.ownsRow w.heap.size 3 1 (.slice a' (lvA ca L).length c') (lvA ca L).length (nats (lvA ca L))∧Below w.heap.size w w':=by
 have HV:=Za V
 have HI:Hid (∀k,k<M→∃g x,a=some ⟨g,0,none⟩∧L[k]?=some x∧w.cell? ⟨g,k,none⟩=some (.int .i64 (x:Int))):=fun k hk=>by
  obtain ⟨g,e1,e2⟩:=Zgx hl hM k hk
  have hkL:k<L.length:=by omega
  refine ⟨g,L[k],e1,List.getElem?_eq_getElem hkL,?_⟩
  rw [e2,List.getD_eq_getElem?_getD,List.getElem?_eq_getElem hkL]
  rfl
 have HM:=Za hM
 have HPost:Hid (∀a' c' n w',n=(lvA ca L).length→w'.ownsRow w.heap.size 3 1 (.slice a' n c') n (nats (lvA ca L))→Below w.heap.size w w'→∃a c,(Ending.returned (.slice a' n c'))=.returned (.slice a (lvA ca L).length c)∧w'.ownsRow w.heap.size 3 1 (.slice a (lvA ca L).length c) (lvA ca L).length (nats (lvA ca L))∧Below w.heap.size w w'):=fun a' c' n w' hn q2 q3=>by
  rw [hn] at q2 ⊢
  exact ⟨a',c',rfl,q2,q3⟩
 clear V hl hM
 go_enter Tryz.func71,Tryz.ntmps71
 go_wp2_with fail
 go_loopw [10,5] (fun iv fv wr=>∃(k n:Nat) (a':Option Addr) (c':Nat),k≤M∧iv=.int .i64 (k:Int)∧fv=.slice a' n c'∧Hid (n=(lvA ca (L.take k)).length)∧Hid (n≤k)∧Hid (wr.ownsRow w.heap.size 3 1 (.slice a' n c') n (nats (lvA ca (L.take k))))∧Hid (Below w.heap.size w wr)) (fun iv _ _=>M-(intOf iv).toNat)
 case atStart=>exact ⟨0,0,none,0,by omega,rfl,rfl,rfl,Nat.le_refl _,(World.ownsRow_nil _ _ _ _:World.ownsRow w w.heap.size 3 1 (.slice none 0 0) 0 []),Below.refl _ _⟩
 case round=>
  obtain ⟨k,n,a',c',hk,rfl,rfl,hn,hnk,hO,hB⟩:=hrel
  by_cases hlt:k<M
  ·obtain ⟨gl,x,rfl,hx,hcl⟩:=HI.out k hlt
   have hcl:=Zp hB.out hcl
   have HKD:=Za (Zhz (HV.out.grow hB.out) (x:Int))
   have HTK:Hid (lvA ca (L.take (k+1))=if (ca (x:Int)).kind=1 then lvA ca (L.take k)++[x] else lvA ca (L.take k)):=by
    show _=_
    rw [List.take_add_one,hx]
    exact Ydj ca _ x
   have k0:(0:Int)≤(k:Int):=by omega
   have k1:(k:Int)<(M:Int):=by omega
   have hwk:wrap64 ((k:Int)+1)=((k+1:Nat):Int):=by rw [Go.IntWalk.wrap64_in _ (by omega)];rfl
   have HNS:=Za (Zap (lvA ca (L.take k)) x)
   generalize (ca (x:Int)).kind=p at HKD HTK
   obtain ⟨y,hy⟩:∃y:Int,y=(x:Int):=⟨_,rfl⟩
   rw [← hy] at hcl HKD HNS
   clear hx hy
   by_cases hp:p=1
   ·have HT1:Hid (lvA ca (L.take (k+1))=lvA ca (L.take k)++[x]):=by
     have:=HTK.out
     rw [if_pos hp] at this
     exact this
    subst hp
    have HNK:Hid (n+1≤65538):=by have:=hnk.out;show _≤_;omega
    clear HTK
    go_wp2_with (first
     |(go_at_call 85;refine HKD.out.mono ?_;rintro e w3 ⟨rfl,b3⟩;have HB3:=Za (Zb hB.out b3);have HOd:=Za (Zl (Zl hO.out b3) (Zd w3 (.cells #[.int .i64 y] 3)));clear b3)
     |(at_builtin;refine Zam _ rfl _ _ _ rfl w.heap.size 3 1 8 Tryz.underlying30 Zae (by omega) _ n (nats (lvA ca (L.take k))) rfl HOd.out w3.heap.size [.int .i64 y] rfl (Blk.new _ _ _) rfl (by intro u hu;simp at hu;subst hu;rfl) (by have:=HNK.out;simp only [maxLen];omega) (by have:=HNK.out;omega) (Nat.le_trans HB3.out.size (by simp)) ?_;intro a5 c5 w5 o5 g5;have HO5:=Za o5;have HB5:=Za (Zaa (Zb HB3.out (Zd w3 (.cells #[.int .i64 y] 3))) HOd.out (Nat.le_refl _) g5);clear o5 g5))
    refine ⟨⟨k+1,n+1,a5,c5,by omega,by go_num,rfl,?_,?_,?_,HB5⟩,by simp [intOf];exact Zjd k1⟩
    ·show _=_
     rw [HT1.out,List.length_append,hn.out]
     rfl
    ·have:=hnk.out
     show _≤_
     omega
    ·show World.ownsRow _ _ _ _ _ _ _
     rw [HT1.out,HNS.out]
     exact HO5.out
   ·have HT1:Hid (lvA ca (L.take (k+1))=lvA ca (L.take k)):=by
     have:=HTK.out
     rw [if_neg hp] at this
     exact this
    have hp2:(p == 1)=false:=by simp [hp]
    clear HTK HNS
    go_wp2_with (go_at_call 85;refine HKD.out.mono ?_;rintro e w3 ⟨rfl,b3⟩;have HB3:=Za (Zb hB.out b3);have HO3:=Za (Zl hO.out b3);clear b3)
    exact ⟨⟨k+1,n,a',c',by omega,by go_num,rfl,by rw [HT1.out];exact hn,by have:=hnk.out;show _≤_;omega,by rw [HT1.out];exact HO3,HB3⟩,by simp [intOf];exact Zjd k1⟩
  ·obtain rfl:k=M:=by omega
   have nlt: ¬(k:Int)<(k:Int):=by omega
   have q1:=hO.out
   have q2:=hn.out
   rw [List.take_of_length_le (by rw [← HM.out];omega)] at q1 q2
   have HF:=Za (HPost.out a' c' n wr q2 q1 hB.out)
   clear q1 q2
   go_wp2_with fail
   go_ret
   exact HF.out
def enA (ca:Int→Ce) (l:List Nat):List Ent:=l.map fun (h:Nat)=>((ca (h:Int)).key,(ca (h:Int)).bs)
set_option maxHeartbeats 4000000 in
theorem Zqj {w:World} {v:Value} {mk:Bool} {ct:Int→Nat} {ca:Int→Ce} (V:Vw w v mk ct ca) (a:Option Addr) (c M:Nat) (L:List Nat) (hl:Lst w 3 1 (.slice a M c) M (nats L)) (hM:M=L.length) (h6:M≤4096):Calls Tryz.prog 73 #[v,.slice a M c] w fun e w'=>∃v' V',e=.returned v'∧PrAt w' v' V' (enA ca L)∧Below w.heap.size w w':=by
 have HV:=Za V
 have HI:Hid (∀k,k<M→∃g x,a=some ⟨g,0,none⟩∧L[k]?=some x∧w.cell? ⟨g,k,none⟩=some (.int .i64 (x:Int))):=fun k hk=>by
  obtain ⟨g,e1,e2⟩:=Zgx hl hM k hk
  have hkL:k<L.length:=by omega
  refine ⟨g,L[k],e1,List.getElem?_eq_getElem hkL,?_⟩
  rw [e2,List.getD_eq_getElem?_getD,List.getElem?_eq_getElem hkL]
  rfl
 have HM:=Za hM
 clear V hl hM
 go_enter Tryz.func73,Tryz.ntmps73
 go_wp2_with fail
 go_loopw [10,5] (fun iv fv wr=>∃(k:Nat) (its:List (Ent×Value)),k≤M∧iv=.int .i64 (k:Int)∧Hid (its.map (·.1)=enA ca (L.take k)∧its.length=k)∧Hid (Bl w [] its (.slice none 0 0) fv wr)) (fun iv _ _=>M-(intOf iv).toNat)
 case atStart=>exact ⟨0,[],by omega,rfl,⟨rfl,rfl⟩,World.ownsRow_nil _ _ _ _,(fun k hk=>by simp [Value.ownBlock] at hk),World.ownsRow_nil _ _ _ _,(fun p hp=>by cases hp),Below.refl _ _⟩
 case round=>
  obtain ⟨k,its,hk,rfl,hi,hB⟩:=hrel
  have hits:=hi.out.2
  by_cases hlt:k<M
  ·obtain ⟨gl,x,rfl,hx,hcl⟩:=HI.out k hlt
   have hcl:=Zp hB.out.2.2.2.2 hcl
   have HTK:Hid (enA ca (L.take (k+1))=enA ca (L.take k)++[((ca (x:Int)).key,(ca (x:Int)).bs)]):=by
    show _=_
    rw [List.take_add_one,hx]
    simp [enA]
   have HKE:Hid (∀w',Below w.heap.size w w'→Calls Tryz.prog 94 #[v,.int .i64 (x:Int)] w' fun e w''=>e=.returned (.agg (B (ca (x:Int)).key))∧Below w'.heap.size w' w''):=fun w' hb=>Zpx (HV.out.grow hb) (x:Int)
   have HVA:Hid (∀w',Below w.heap.size w w'→Calls Tryz.prog 97 #[v,.int .i64 (x:Int)] w' fun e w''=>∃v' sp,e=.returned v'∧Own w'.heap.size w'' v' (ca (x:Int)).bs sp∧Below w'.heap.size w' w''):=fun w' hb=>Zkg (HV.out.grow hb) (x:Int)
   have HKY:Hid (Key (ca (x:Int)).key):=(HV.out.ok (x:Int)).hk
   have k0:(0:Int)≤(k:Int):=by omega
   have k1:(k:Int)<(M:Int):=by omega
   have hwk:wrap64 ((k:Int)+1)=((k+1:Nat):Int):=by rw [Go.IntWalk.wrap64_in _ (by omega)];rfl
   generalize (ca (x:Int)).key=K at *
   generalize (ca (x:Int)).bs=bs at *
   generalize (x:Int)=y at *
   have HKM:Hid (k≤4096):=by show _≤_;omega
   clear hx
   obtain ⟨fa,fc,hfv⟩:=Zi (Zt hB.out.2.2.1)
   rw [hits] at hfv
   rename_i fv _
   subst hfv
   go_wp2_with (first
    |(go_at_call 94;refine (HKE.out _ hB.out.2.2.2.2).mono ?_;rintro e w3 ⟨rfl,b3⟩;have HB3:=Za (hB.out.grow b3);clear b3)
    |(go_at_call 97;refine (HVA.out _ HB3.out.2.2.2.2).mono ?_;rintro e w4 ⟨v4,sp,rfl,o4,b4⟩;have HB4:=Za (HB3.out.grow b4);have HO4:=Za (o4.mono HB3.out.2.2.2.2.size);obtain ⟨ua,uc,rfl⟩:=o4.slice;have HBU:=Za (Yfb K ua bs.length uc HKY.out.1);clear b4 o4)
    |((with_reducible refine Zfi 21 ?_);refine Zai _ rfl _ _ rfl _ (by rw [List.map_toArray];exact HBU.out) ?_)
    |(refine Zkd _ rfl _ rfl K (.slice ua bs.length uc) rfl HKY.out.1 ?_;have HB5:=Za (HB4.out.grow (Zd w4 (.cells (encP K (.slice ua bs.length uc)).toArray 152)));have HO5:=Za (HO4.out.grow (Zd w4 (.cells (encP K (.slice ua bs.length uc)).toArray 152))))
    |(at_builtin;refine Zos _ rfl _ _ rfl w.heap.size _ k (flatP its) (by have:=HB5.out.2.2.1;rw [hits] at this;exact this) rfl w4.heap.size K (.slice ua bs.length uc) rfl (Blk.new _ _ _) HKY.out.1 rfl HKM.out HB5.out.2.2.2.2.size ?_;intro v' w6 ho6 hg6))
   exact ⟨⟨k+1,its++[((K,bs),.slice ua bs.length uc)],by omega,by go_num,⟨by rw [List.map_append,hi.out.1,HTK.out];rfl,by rw [List.length_append,hits];rfl⟩,HB5.out.add (E:=(K,bs)) HKY.out HO5.out (by rw [hits];exact ho6) hg6⟩,by simp [intOf];exact Zjd k1⟩
  ·obtain rfl:k=M:=by omega
   have nlt: ¬(k:Int)<(k:Int):=by omega
   obtain ⟨V',hV'⟩:=hB.out.done
   rw [hi.out.1,List.take_of_length_le (by rw [← HM.out];omega)] at hV'
   have HF:=Za hV'
   have HB9:=Za hB.out.2.2.2.2
   clear hV'
   go_wp2_with fail
   go_ret
   exact ⟨_,rfl,⟨V',HF.out⟩,HB9.out⟩
def nN:Nat→Nat→List Ent→Nat
 | 0,_,l=>l.length
 | n+1,d,l=>if l.length≤1 then l.length else 1+(nN n (d+1) (sideOf l d 0)+nN n (d+1) (sideOf l d 1))
def Tre.hds:Nat→Tre→List Nat
 | _,.emp=>[]
 | h,.lf _ _=>[h]
 | h,.nd _ hl hr l r=>h::(l.hds hl++r.hds hr)
theorem Zqb {cs:List (Nat×Ce)}:∀(T:Tre) (h:Nat),IsT cs h T→∀q∈T.hds h,1≤q∧0<cc cs (q-1)
 | .emp,_,_,q,hq=>by cases hq
 | .lf _ _,h,hT,q,hq=>by
  obtain rfl:q=h:=by simpa [Tre.hds] using hq
  exact ⟨hT.1,hT.2.1⟩
 | .nd _ hl hr L R,h,hT,q,hq=>by
  obtain ⟨h1,h2,_,_,_,_,h7,h8⟩:=hT
  rcases List.mem_cons.1 hq with e | hq
  ·subst e
   exact ⟨h1,h2⟩
  ·rcases List.mem_append.1 hq with hq | hq
   ·exact Zqb L hl h7 q hq
   ·exact Zqb R hr h8 q hq
theorem Zpz {T:Tre} {h:Nat} {cs:List (Nat×Ce)} (hT:IsT cs h T) (h0:h≠0):h∈T.hds h:=by
 match T,hT with
 | .emp,e=>exact absurd e h0
 | .lf _ _,_=>simp [Tre.hds]
 | .nd _ _ _ _ _,_=>simp [Tre.hds]
theorem Zgz {cs:List (Nat×Ce)} {pend:List Nat} (w:Wf cs pend):∀(T:Tre) (h:Nat),IsT cs h T→∀q∈T.hds h,∃U,IsT cs q U∧(∀e∈U.ents,e∈T.ents)∧((ce cs (q-1)).l≠0→(ce cs (q-1)).l∈T.hds h)∧((ce cs (q-1)).r≠0→(ce cs (q-1)).r∈T.hds h)∧(q≠h→(ce cs (q-1)).kind=2→(ce cs (h-1)).kind=2∧(ce cs (h-1)).dp<(ce cs (q-1)).dp)
 | .emp,_,_,q,hq=>by cases hq
 | .lf k b,h,hT,q,hq=>by
  obtain rfl:q=h:=by simpa [Tre.hds] using hq
  have hk:=hT.2.2.1
  have hn:=w.tr (q-1) hT.2.1
  rcases hn with hn | hn
  ·exact ⟨_,hT,fun e he=>he,fun h=>absurd hn.l h,fun h=>absurd hn.r h,fun h=>absurd rfl h⟩
  ·have:=hn.kind;omega
 | .nd d hl hr L R,h,hT,q,hq=>by
  have hT0:=hT
  have n:=Zhp w hT
  obtain ⟨h1,h2,h3,h4,h5,h6,h7,h8⟩:=hT
  rcases List.mem_cons.1 hq with e | hq
  ·subst e
   refine ⟨_,hT0,fun e he=>he,fun h=>?_,fun h=>?_,fun h=>absurd rfl h⟩
   ·rw [h5] at h ⊢
    exact List.mem_cons_of_mem _ (List.mem_append_left _ (Zpz h7 h))
   ·rw [h6] at h ⊢
    exact List.mem_cons_of_mem _ (List.mem_append_right _ (Zpz h8 h))
  ·have deep:∀(x:Nat) (X:Tre),IsT cs x X→q∈X.hds x→((sdC cs x).kind=2→(sdC cs x).dp=d+1)→((q≠x→(ce cs (q-1)).kind=2→(ce cs (x-1)).kind=2∧(ce cs (x-1)).dp<(ce cs (q-1)).dp))→(ce cs (q-1)).kind=2→(ce cs (h-1)).dp<(ce cs (q-1)).dp:=fun x X hX hq hk hd k2=>by
    have hx0:x≠0:=fun e=>by
     subst e
     rw [IsT.one hX (show IsT cs 0 .emp from rfl)] at hq
     cases hq
    have es:sdC cs x=ce cs (x-1):=if_neg hx0
    rw [es] at hk
    by_cases e:q=x
    ·subst e
     have:=hk k2
     omega
    ·obtain ⟨a,b⟩:=hd e k2
     have:=hk a
     omega
   rcases List.mem_append.1 hq with hq | hq
   ·obtain ⟨U,u1,u2,u3,u4,u5⟩:=Zgz w L hl h7 q hq
    exact ⟨U,u1,fun e he=>List.mem_append_left _ (u2 e he),fun h=>List.mem_cons_of_mem _ (List.mem_append_left _ (u3 h)),fun h=>List.mem_cons_of_mem _ (List.mem_append_left _ (u4 h)),fun _ k2=>⟨h3,deep hl L h7 hq n.kl u5 k2⟩⟩
   ·obtain ⟨U,u1,u2,u3,u4,u5⟩:=Zgz w R hr h8 q hq
    exact ⟨U,u1,fun e he=>List.mem_append_right _ (u2 e he),fun h=>List.mem_cons_of_mem _ (List.mem_append_right _ (u3 h)),fun h=>List.mem_cons_of_mem _ (List.mem_append_right _ (u4 h)),fun _ k2=>⟨h3,deep hr R h8 hq n.kr u5 k2⟩⟩
theorem Zjm {cs:List (Nat×Ce)} {pend:List Nat} (w:Wf cs pend):∀(T:Tre) (h:Nat),IsT cs h T→(T.hds h).Nodup
 | .emp,_,_=>List.nodup_nil
 | .lf _ _,h,_=>by simp [Tre.hds]
 | .nd d hl hr L R,h,hT=>by
  have n:=Zhp w hT
  obtain ⟨h1,h2,h3,h4,h5,h6,h7,h8⟩:=hT
  have a1:=Zjm w L hl h7
  have a2:=Zjm w R hr h8
  have ne:∀(x:Nat) (X:Tre),IsT cs x X→((sdC cs x).kind=2→(sdC cs x).dp=d+1)→h ∉ X.hds x:=fun x X hX hk hq=>by
   obtain ⟨U,u1,_,_,_,u5⟩:=Zgz w X x hX h hq
   have hx0:x≠0:=fun e=>by
    subst e
    rw [IsT.one hX (show IsT cs 0 .emp from rfl)] at hq
    cases hq
   have es:sdC cs x=ce cs (x-1):=if_neg hx0
   rw [es] at hk
   by_cases e:h=x
   ·subst e
    have:=hk h3
    omega
   ·obtain ⟨a,b⟩:=u5 e h3
    have:=hk a
    omega
  show (h::(L.hds hl++R.hds hr)).Nodup
  rw [List.nodup_cons]
  refine ⟨fun hq=>?_,?_⟩
  ·rcases List.mem_append.1 hq with hq | hq
   ·exact ne hl L h7 n.kl hq
   ·exact ne hr R h8 n.kr hq
  ·rw [List.nodup_append]
   refine ⟨a1,a2,fun x hx y hy e=>?_⟩
   subst e
   obtain ⟨U,u1,u2,_⟩:=Zgz w L hl h7 x hx
   obtain ⟨V,v1,v2,_⟩:=Zgz w R hr h8 x hy
   have:=u1.one v1
   subst this
   have hx0:x≠0:=by have:=(Zqb L hl h7 x hx).1;omega
   obtain ⟨e,he⟩:=List.exists_mem_of_ne_nil _ ((Zau w U x u1).pos hx0)
   have b1:=n.bL e (u2 e he)
   have b2:=n.bR e (v2 e he)
   omega
theorem Zmb {cs:List (Nat×Ce)}:∀(T:Tre) (h:Nat),IsT cs h T→(T.lvs h).map (fun q=>((ce cs (q-1)).key,(ce cs (q-1)).bs))=T.ents
 | .emp,_,_=>rfl
 | .lf k b,h,⟨_,_,_,h4,h5⟩=>by
  show [((ce cs (h-1)).key,(ce cs (h-1)).bs)]=[(k,b)]
  rw [h4,h5]
 | .nd d a b L R,h,⟨_,_,_,_,_,_,h7,h8⟩=>by
  show (L.lvs a++R.lvs b).map _=L.ents++R.ents
  rw [List.map_append,Zmb L a h7,Zmb R b h8]
theorem Zqc {cs:List (Nat×Ce)}:∀(T:Tre) (h:Nat),IsT cs h T→(T.hds h).filter (fun q=>decide ((ce cs (q-1)).kind=1))=T.lvs h
 | .emp,_,_=>rfl
 | .lf k b,h,⟨_,_,h3,_,_⟩=>by
  show [h].filter _=[h]
  simp [h3]
 | .nd d a b L R,h,⟨_,_,h3,_,_,_,h7,h8⟩=>by
  show (h::(L.hds a++R.hds b)).filter _=L.lvs a++R.lvs b
  rw [List.filter_cons,if_neg (by rw [h3];decide),List.filter_append,Zqc L a h7,Zqc R b h8]
theorem Zqa {cs:List (Nat×Ce)}:∀(T:Tre) (h:Nat) (R:List Nat),IsT cs h T→(h≠0→Rch cs R h)→∀q∈T.hds h,Rch cs R q
 | .emp,_,_,_,_,q,hq=>by cases hq
 | .lf _ _,h,_,⟨h1,_⟩,hr,q,hq=>by
  obtain rfl:q=h:=by simpa [Tre.hds] using hq
  exact hr (by omega)
 | .nd d a b L U,h,R,⟨h1,_,_,_,h5,h6,h7,h8⟩,hr,q,hq=>by
  have hh:=hr (by omega)
  rw [Tre.hds,List.mem_cons,List.mem_append] at hq
  rcases hq with rfl | hq | hq
  ·exact hh
  ·exact Zqa L a R h7 (fun h0=>.side hh (by rw [sdH,h5];simp) h0) q hq
  ·exact Zqa U b R h8 (fun h0=>.side hh (by rw [sdH,h6];simp) h0) q hq
theorem Yhs {cs:List (Nat×Ce)} (W:Wf cs []) {T:Tre} {r:Nat} (hT:IsT cs r T) {q:Nat} (h:Rch cs [r] q):q∈T.hds r:=by
 induction h with
 | top hm h0=>
  rw [List.mem_singleton.1 hm] at h0 ⊢
  exact Zpz hT h0
 | @side a b _ hb h0 ih=>
  obtain ⟨_,_,_,l,rr,_⟩:=Zgz W T r hT a ih
  simp only [sdH,List.mem_cons,List.not_mem_nil,or_false] at hb
  rcases hb with e | e
  ·rw [e] at h0 ⊢
   exact l h0
  ·rw [e] at h0 ⊢
   exact rr h0
theorem Ycr {cs:List (Nat×Ce)} (W:Wf cs []) {T:Tre} {r:Nat} (hT:IsT cs r T) {P:List Nat} (h:RdA cs [r] P):(rch P).Perm (T.hds r):=(List.perm_ext_iff_of_nodup (Zfz P) (Zjm W T r hT)).2 (fun x=>by
 rw [h.mem]
 exact ⟨Yhs W hT,Zqa T r [r] hT (fun h0=>.top (List.mem_singleton.2 rfl) h0) x⟩)
theorem Zzn {cs:List (Nat×Ce)} (W:Wf cs []) {T:Tre} {r:Nat} (hT:IsT cs r T) {P:List Nat} (h:RdA cs [r] P):(((rch P).filter fun q=>decide ((ce cs (q-1)).kind=1)).map fun q=>((ce cs (q-1)).key,(ce cs (q-1)).bs)).Perm T.ents:=by
 rw [← Zmb T r hT,← Zqc T r hT]
 exact ((Ycr W hT h).filter _).map _
theorem Zzk {cs:List (Nat×Ce)} (W:Wf cs []) {T:Tre} {r:Nat} (hT:IsT cs r T) {es:List Ent} (hp:es.Perm T.ents) (h4:T.ents.length≤4096):errB es=0:=by
 have ok:=Zau W T r hT
 unfold errB
 rw [if_neg (by rw [hp.length_eq];omega)]
 refine Yfw [] es (fun e he=>(ok.ent e (hp.mem_iff.1 he)).2.1) ?_ (fun _ _ h=>by cases h)
 exact hp.symm.pairwise ok.apart (fun h e=>h e.symm)
theorem Zxy (xs:List Int) (i:Nat) (hi:i<xs.length) (w:World):(part 5 (B xs) i).run Tryz.prog w=.ok (.int .u8 (xs.getD i 0)) w:=by
 have hagg:(isAgg 5).run Tryz.prog w=.ok false w:=Tryz.isAgg5 w
 have h1:=Yaw xs i hi
 unfold part
 rw [Sem.run_bind,hagg]
 simp only [Result.andThen_ok,Bool.false_eq_true,if_false,h1,Sem.run_pure]
theorem Zhc (xs:List Int) (em:Bool) (hx:xs.length=32) (w:World):(Instr.checkKey em 10000 34 (.agg (B xs))).run Tryz.prog w=.ok () w:=by
 obtain ⟨i,hi⟩:∃i,Tryz.prog.info? 5=some i:=⟨_,rfl⟩
 have hsz:i.size=1:=by
  have:=Zho
  simpa [Program.cellsOf,hi] using this
 have hs:∀w,(Go.sizeOf 5).run Tryz.prog w=.ok 1 w:=fun w=>by simp [Go.sizeOf,typeInfo,hi,hsz]
 have hb:∀z w,(Instr.checkKey em 9999 5 (.int .u8 z)).run Tryz.prog w=.ok () w:=fun z w=>by
  rw [show (9999:Nat)=9998+1 from rfl,Instr.checkKey]
  simp [Sem.run_bind,run_underlying Zim]
 rw [show (10000:Nat)=9999+1 from rfl,Instr.checkKey]
 simp only [Sem.run_bind,run_underlying Zcm,Result.andThen_ok]
 simp only [Std.Legacy.Range.forIn_eq_forIn_range',Std.Legacy.Range.size,Nat.sub_zero,Nat.add_one_sub_one,Nat.div_one]
 have each:∀j∈List.range' 0 32,j<32:=fun j hj=>by simp at hj;omega
 generalize List.range' 0 32=js at each
 induction js with
 | nil=>simp
 | cons j js ih=>
  have hj:=each j (by simp)
  simp only [List.forIn_cons,Sem.run_bind,hs,Result.andThen_ok,Nat.mul_one,Zxy xs j (by omega),hb,Sem.run_pure]
  exact ih (fun y hy=>each y (by simp [hy]))
def KeysAt (w:World) (b:Nat) (ks:List (List Int)):Prop:=
 ∃es clock,w.heap[b]?=some (.map es clock)∧es.toList.map (fun e=>(e.key,e.val))=ks.map (fun k=>(Value.agg (B k),Value.agg #[]))
theorem KeysAt.lt {w:World} {b:Nat} {ks:List (List Int)} (h:KeysAt w b ks):b<w.heap.size:=by
 obtain ⟨es,c,h1,_⟩:=h
 exact (Array.getElem?_eq_some_iff.1 h1).1
theorem KeysAt.grow {w w':World} {b:Nat} {ks:List (List Int)} (h:KeysAt w b ks) (hb:Below w.heap.size w w'):KeysAt w' b ks:=by
 have hl:=h.lt
 obtain ⟨es,c,h1,h2⟩:=h
 exact ⟨es,c,(hb.block b hl).trans h1,h2⟩
theorem KeysAt.new (w:World):KeysAt (w.alloc (.map #[] 0)) w.heap.size []:=⟨#[],0,heap_alloc_new w _,rfl⟩
theorem Zzm (xs ys:List Int) (hx:xs.length=32) (hy:ys.length=32) (w:World):(Op.equal 34 (.agg (B xs)) (.agg (B ys))).run Tryz.prog w=.ok (decide (xs=ys)) w:=Zdj xs ys hx hy w
theorem Zjp (xs:List Int) (hx:xs.length=32) (w:World):∀(es:List MapEntry) (ks:List (List Int)) (i:Nat),(∀k∈ks,k.length=32)→es.map (fun e=>(e.key,e.val))=ks.map (fun k=>(Value.agg (B k),Value.agg #[]))→
  ∃r,(Instr.findAsking 34 (.agg (B xs)) es i).run Tryz.prog w=.ok r w∧(xs∈ks→∃j,r=some (j,.agg #[]))∧(xs ∉ ks→r=none)
 | [],ks,i,_,h=>by
  have:ks=[]:=by simpa using h.symm
  subst this
  exact ⟨none,by simp [Instr.findAsking],fun h=>by simp at h,fun _=>rfl⟩
 | e::es,[],i,_,h=>by simp at h
 | e::es,k::ks,i,hl,h=>by
  simp only [List.map_cons,List.cons.injEq,Prod.mk.injEq] at h
  obtain ⟨⟨h1,h2⟩,h3⟩:=h
  have he:=Zzm xs k hx (hl k (by simp)) w
  by_cases hk:xs=k
  ·refine ⟨some (i,e.val),?_,fun _=>⟨i,by rw [h2]⟩,fun hn=>absurd (by simp [hk]) hn⟩
   rw [Instr.findAsking,Sem.run_bind,h1,he]
   simp [hk]
  ·obtain ⟨r,r1,r2,r3⟩:=Zjp xs hx w es ks (i+1) (fun q hq=>hl q (by simp [hq])) h3
   refine ⟨r,?_,fun hm=>r2 ((List.mem_cons.1 hm).resolve_left hk),fun hn=>r3 (fun hm=>hn (by simp [hm]))⟩
   rw [Instr.findAsking,Sem.run_bind,h1,he]
   simp only [Result.andThen_ok,decide_eq_false hk,Bool.false_eq_true,if_false]
   exact r1
theorem Zsm (xs:List Int) (hx:xs.length=32) (w:World) (es:List MapEntry) (ks:List (List Int)) (hl:∀k∈ks,k.length=32) (h:es.map (fun e=>(e.key,e.val))=ks.map (fun k=>(Value.agg (B k),Value.agg #[]))):
  ∃r,(Instr.findKey 34 (.agg (B xs)) es).run Tryz.prog w=.ok r w∧(xs∈ks→∃j,r=some (j,.agg #[]))∧(xs ∉ ks→r=none):=by
 match es,ks,h with
 | [],ks,h=>
  have:ks=[]:=by simpa using h.symm
  subst this
  refine ⟨none,?_,fun h=>by simp at h,fun _=>rfl⟩
  unfold Instr.findKey
  rw [Sem.run_bind,run_underlying Zcm]
  simp [Instr.findNow]
 | e::es,ks,h=>
  obtain ⟨r,r1,r2,r3⟩:=Zjp xs hx w (e::es) ks 0 hl h
  refine ⟨r,?_,r2,r3⟩
  unfold Instr.findKey
  rw [Sem.run_bind,run_underlying Zcm]
  simp only [Result.andThen_ok,Instr.findNow,Instr.sameNow]
  exact r1
theorem Zhq:Tryz.prog.underlying 265=some (.map 34 266):=Tryz.underlying265
theorem Zmn:∀w,(zeroValue 266).run Tryz.prog w=.ok (.agg #[]) w:=Tryz.zeroValue266
theorem Zij {ops:Array Oper} {rest:List Oper} {op:Oper} {a:Act} {Q:Exit→Act→World→Prop} (w:World) (hgd:op.guard=none) (m x:Operand) (ho:op.op=.lookup 265 m x true)
  (b:Nat) (ks:List (List Int)) (xs:List Int) (hm:a.eval m=.map (some b)) (hx:a.eval x=.agg (B xs)) (hl:xs.length=32) (hk:∀k∈ks,k.length=32) (h:KeysAt w b ks)
  (hK:wpList Tryz.prog ops Q rest (a.put op.dst (.tuple #[.agg #[],.bool (decide (xs∈ks))])) w):wpList Tryz.prog ops Q (op::rest) a w:=by
 refine wpList_plain hgd fun K hK'=>?_
 obtain ⟨es,c,h1,h2⟩:=h
 obtain ⟨r,r1,r2,r3⟩:=Zsm xs hl w es.toList ks hk h2
 have hrun:(Instr.lookup 265 (.map (some b)) (.agg (B xs)) true).run Tryz.prog w=.ok (.tuple #[.agg #[],.bool (decide (xs∈ks))]) w:=by
  have go:(getObj b).run Tryz.prog w=.ok (.map es c) w:=by simp [getObj,Sem.run,h1]
  unfold Instr.lookup
  by_cases hmem:xs∈ks
  ·obtain ⟨j,rfl⟩:=r2 hmem
   simp [run_underlying Zhq,go,Zhc xs _ hl,r1,hmem,Result.andThen]
  ·rw [r3 hmem] at r1
   simp [run_underlying Zhq,go,Zhc xs _ hl,r1,hmem,Result.andThen]
 unfold Oper.wp execOp
 simp only [ho,hm,hx,Sem.run_bind,hrun,Result.andThen_ok,Sem.run_pure]
 exact hK' _ _ hK
theorem Zkz {ops:Array Oper} {rest:List Oper} {op:Oper} {a:Act} {Q:Exit→Act→World→Prop} (w:World) (hgd:op.guard=none) (m x v:Operand) (ho:op.op=.mapUpdate 265 m x v)
  (b:Nat) (ks:List (List Int)) (xs:List Int) (hm:a.eval m=.map (some b)) (hx:a.eval x=.agg (B xs)) (hv:a.eval v=.agg #[]) (hl:xs.length=32) (hk:∀k∈ks,k.length=32) (hn:xs ∉ ks) (h:KeysAt w b ks)
  (hK:∀w',KeysAt w' b (ks++[xs])→w.grownBy w' (some b)→wpList Tryz.prog ops Q rest (a.put op.dst undef) w'):wpList Tryz.prog ops Q (op::rest) a w:=by
 refine wpList_plain hgd fun K hK'=>?_
 have hb:=h.lt
 obtain ⟨es,c,h1,h2⟩:=h
 obtain ⟨r,r1,_,r3⟩:=Zsm xs hl w es.toList ks hk h2
 rw [r3 hn] at r1
 have hrun:(Instr.mapUpdate 265 (.map (some b)) (.agg (B xs)) (.agg #[])).run Tryz.prog w=.ok () { w with heap:=w.heap.setIfInBounds b (.map (es.push { key:=.agg (B xs),val:=.agg #[],born:=c}) (c+1))}:=by
  unfold Instr.mapUpdate
  have go:(getObj b).run Tryz.prog w=.ok (.map es c) w:=by simp [getObj,Sem.run,h1]
  have so:∀o,(setObj b o).run Tryz.prog w=.ok () { w with heap:=w.heap.setIfInBounds b o}:=fun o=>by simp [setObj,Sem.run,h1]
  simp [run_underlying Zhq,go,so,Zhc xs _ hl,r1,Result.andThen]
 unfold Oper.wp execOp
 simp only [ho,hm,hx,hv,Sem.run_bind,hrun,Result.andThen_ok,Sem.run_pure]
 refine hK' _ _ (hK _ ⟨es.push { key:=.agg (B xs),val:=.agg #[],born:=c},c+1,by simp [hb],by simp [h2]⟩ ⟨rfl,rfl,rfl,by simp,fun k _ hne=>?_⟩)
 have:b≠k:=fun e=>hne (by rw [e])
 simp [this]
end Go.Proofs.YtgfdgjkbcdmboaaGreatDoor
